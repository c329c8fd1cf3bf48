/- 11. -/
import Derived.Deep.RegionWith
import Derived.BigRegion
import Derived.WalkSmall
import Derived.Lib.SmallJoins
import Derived.Deep.QuietTactic
import Derived.BigQuiet
import Derived.Lib.ItoaNum
import Derived.Test.YthfgpkdbclogpaaGreatDoorTx10
set_option maxHeartbeats 40000000
set_option maxRecDepth 100000
namespace Go.Proofs.YthfgpkdbclogpaaGreatDoor
structure Nx (p q:Ps):Prop where
 sf:∃ u,p.toks=u++q.toks∧∀ t∈u,t.kind≠7∧t.kind≠8
 deep:q.deep=p.deep
 blk:q.blk=p.blk
 inD:q.inD=p.inD
 fin:q.fin=p.fin
theorem Nx.refl (p:Ps):Nx p p:=⟨⟨[],rfl,by simp⟩,rfl,rfl,rfl,rfl⟩
theorem Nx.trans {p q r:Ps}(h:Nx p q)(k:Nx q r):Nx p r:=by
 obtain⟨u,h1,h2⟩:=h.sf
 obtain⟨v,k1,k2⟩:=k.sf
 refine⟨⟨u++v,by rw[h1,k1,List.append_assoc],fun t ht=>?_⟩,k.deep.trans h.deep,k.blk.trans h.blk,k.inD.trans h.inD,k.fin.trans h.fin⟩
 rcases List.mem_append.1 ht with ht|ht
 ·exact h2 t ht
 ·exact k2 t ht
theorem Nx.le {p q:Ps}(h:Nx p q):q.toks.length≤p.toks.length:=by
 obtain⟨u,h1,_⟩:=h.sf
 rw[h1,List.length_append]
 omega
def Tt {α:Type}(k:Nat)(p:Ps)(m:Px α)(J:α→Ps→Prop):Prop:=∃ z,m=some z∧∀ a q,z= .ok (a,q)→Nx p q∧q.toks.length+k≤p.toks.length∧J a q
section
variable {α β:Type} {k j:Nat} {p:Ps} {m:Px α} {J J':α→Ps→Prop} {K:β→Ps→Prop}
theorem Tt.bnd {f:α→Ps→Px β}(h:Tt k p m J)(g:∀ a q,Nx p q→q.toks.length+k≤p.toks.length→J a q→Tt j q (f a q) K):Tt (k+j) p (bnd m f) K:=by
 obtain⟨z,rfl,hz⟩:=h
 match z,hz with
 | .error x,_=>exact⟨.error x,rfl,fun a q e=>by cases e⟩
 | .ok (a,q),hz=>
  obtain⟨h1,h2,h3⟩:=hz a q rfl
  obtain⟨z2,e2,h4⟩:=g a q h1 h2 h3
  refine⟨z2,e2,fun b r hb=>?_⟩
  obtain⟨h5,h6,h7⟩:=h4 b r hb
  exact⟨h1.trans h5,by omega,h7⟩
theorem Tt.mono (h:Tt k p m J)(hk:j≤k)(hJ:∀ a q,Nx p q→q.toks.length+k≤p.toks.length→J a q→J' a q):Tt j p m J':=by
 obtain⟨z,e,hz⟩:=h
 refine⟨z,e,fun a q ha=>?_⟩
 obtain⟨h1,h2,h3⟩:=hz a q ha
 exact⟨h1,by omega,hJ a q h1 h2 h3⟩
end
theorem nx_adv {p:Ps}{t:Tk}{r:List Tk}(hp:p.toks=t::r)(h7:t.kind≠7)(h8:t.kind≠8):Nx p p.adv∧p.adv.toks.length+1≤p.toks.length:=by
 have e:p.adv.toks=r:=by show p.toks.drop 1=r;rw[hp];rfl
 refine⟨⟨⟨[t],by rw[e,hp];rfl,fun x hx=>?_⟩,rfl,rfl,rfl,rfl⟩,by rw[e,hp];simp⟩
 rw[List.mem_singleton.1 hx]
 exact⟨h7,h8⟩
theorem nx_of {p:Ps}{t:Tk}{r:List Tk}(hp:p.toks=t::r):p.nx=t:=by unfold Ps.nx;rw[hp]
theorem sees_hd {p:Ps}{l:List (List UInt8)}(h:p.sees l=true):∃ t r,p.toks=t::r∧(t.kind=4∨t.kind=5)∧t.text∈l:=by
 unfold Ps.sees isS at h
 obtain⟨h1,h2⟩:=(Bool.and_eq_true _ _).mp h
 match hp:p.toks with
 |[]=>rw[show p.nx=⟨0,[],0,p.fin⟩ by unfold Ps.nx;rw[hp]]at h1;simp at h1
 |t::r=>
  rw[nx_of hp]at h1 h2
  exact⟨t,r,rfl,by simpa using h1,by simpa using h2⟩
theorem sees_adv {p:Ps}{l:List (List UInt8)}(h:p.sees l=true):Nx p p.adv∧p.adv.toks.length+1≤p.toks.length:=by
 obtain⟨t,r,hp,hk,_⟩:=sees_hd h
 exact nx_adv hp (by omega) (by omega)
structure Ib (d:Nat)(p:Ps):Prop where
 gt:d<p.deep
 le:p.deep≤30
 few:p.toks.length≤50000
theorem Ib.nx {d:Nat}{p q:Ps}(h:Ib d p)(n:Nx p q):Ib d q:=⟨by rw[n.deep];exact h.gt,by rw[n.deep];exact h.le,Nat.le_trans n.le h.few⟩
theorem Tt.adv {α:Type}{k:Nat}{p:Ps}{l:List (List UInt8)}{m:Px α}{J:α→Ps→Prop}(hs:p.sees l=true)(h:Tt k p.adv m J):Tt (k+1) p m J:=by
 obtain⟨h1,h2⟩:=sees_adv hs
 obtain⟨z,e,hz⟩:=h
 refine⟨z,e,fun a q ha=>?_⟩
 obtain⟨k1,k2,k3⟩:=hz a q ha
 exact⟨h1.trans k1,by omega,k3⟩
structure Iq (d:Nat)(s:Ex)(p:Ps):Prop where
 ib:Ib d p
 kids:s.kids.length+p.toks.length≤60000
 names:s.names.length+p.toks.length≤60000
theorem Iq.nx {d:Nat}{s:Ex}{p q:Ps}(h:Iq d s p)(n:Nx p q):Iq d s q:=⟨h.ib.nx n,by have:=n.le;have:=h.kids;omega,by have:=n.le;have:=h.names;omega⟩
def tkey (t:Tk):Nat×List UInt8×Nat:=(t.kind,t.text,t.num)
def hdS (v:List Tk)(l:List (List UInt8)):Bool:=match v with
 |[]=>false
 |t::_=>isS t l
theorem sees_hdS (p:Ps)(l:List (List UInt8)):p.sees l=hdS p.toks l:=by
 unfold Ps.sees hdS
 match hp:p.toks with
 |[]=>rw[show p.nx=⟨0,[],0,p.fin⟩ by unfold Ps.nx;rw[hp]];rfl
 |t::r=>rw[nx_of hp]
theorem isS_key {t t':Tk}(h:tkey t=tkey t')(l:List (List UInt8)):isS t l=isS t' l:=by
 unfold tkey at h
 have h1:=congrArg (·.1) h
 have h2:=congrArg (·.2.1) h
 simp only at h1 h2
 unfold isS
 rw[h1,h2]
def Bd (v v':List Tk):Prop:=∀ l,[41]∉l→hdS v l=hdS v' l
structure Ry (v v':List Tk)(k D:Nat)(p p':Ps):Prop where
 cut:∃ u u',p.toks=u++v∧p'.toks=u'++v'∧u.map tkey=u'.map tkey
 deep:p'.deep=p.deep+k
 d30:p'.deep≤30
 lo:D≤p'.deep
 blk:p'.blk=p.blk
 inD:p'.inD=p.inD
section
variable {v v':List Tk} {k D:Nat} {p p' q q':Ps}
theorem Ry.some (h:Ry v v' k D p p')(hl:v.length+1≤p.toks.length):∃ t u t' u',p.toks=t::(u++v)∧p'.toks=t'::(u'++v')∧tkey t=tkey t'∧u.map tkey=u'.map tkey:=by
 obtain⟨u,u',h1,h2,h3⟩:=h.cut
 match u,u',h3 with
 |[],_,_=>
  exfalso
  rw[h1]at hl
  have h9:([]++v).length=v.length:=rfl
  omega
 |t::u,[],h3=>cases h3
 |t::u,t'::u',h3=>
  simp only[List.map_cons,List.cons.injEq]at h3
  exact⟨t,u,t',u',h1,h2,h3.1,h3.2⟩
theorem Ry.sees (h:Ry v v' k D p p')(hB:Bd v v')(l:List (List UInt8))(hl:[41]∉l∨v.length+1≤p.toks.length):p'.sees l=p.sees l:=by
 rw[sees_hdS,sees_hdS]
 by_cases hs:v.length+1≤p.toks.length
 ·obtain⟨t,u,t',u',h1,h2,h3,_⟩:=h.some hs
  rw[h1,h2]
  exact(isS_key h3 l).symm
 ·have h41:[41]∉l:=hl.resolve_right hs
  obtain⟨u,u',h1,h2,h3⟩:=h.cut
  have hu:u=[]:=by
   rw[h1,List.length_append]at hs
   exact List.length_eq_zero_iff.1 (by omega)
  subst hu
  have hu':u'=[]:=by
   cases u' with
   |nil=>rfl
   |cons a b=>cases h3
  subst hu'
  rw[h1,h2]
  exact(hB l h41).symm
theorem Ry.key (h:Ry v v' k D p p')(hl:v.length+1≤p.toks.length):tkey p'.nx=tkey p.nx:=by
 obtain⟨t,u,t',u',h1,h2,h3,_⟩:=h.some hl
 rw[nx_of h1,nx_of h2,h3]
theorem Ry.adv (h:Ry v v' k D p p')(hl:v.length+1≤p.toks.length):Ry v v' k D p.adv p'.adv:=by
 obtain⟨t,u,t',u',h1,h2,h3,h4⟩:=h.some hl
 exact⟨⟨u,u',by show p.toks.drop 1=_;rw[h1];rfl,by show p'.toks.drop 1=_;rw[h2];rfl,h4⟩,h.deep,h.d30,h.lo,h.blk,h.inD⟩
theorem Ry.len (h:Ry v v' k D p p'):p'.toks.length+v.length=p.toks.length+v'.length:=by
 obtain⟨u,u',h1,h2,h3⟩:=h.cut
 have:=congrArg List.length h3
 rw[List.length_map,List.length_map]at this
 rw[h1,h2,List.length_append,List.length_append]
 omega
theorem Ry.less (h:Ry v v' k D p p')(g:Ry v v' k D q q')(hl:less q p=true):less q' p'=true:=by
 have h1:=h.len
 have h2:=g.len
 unfold Go.Proofs.YthfgpkdbclogpaaGreatDoor.less at hl ⊢
 rw[decide_eq_true_eq]at hl ⊢
 omega
theorem Ry.sSet (h:Ry v v' k D p p')(hB:Bd v v')(hl:v.length+1≤p.toks.length):sSet p'=sSet p:=by
 obtain⟨t,u,t',u',h1,h2,h3,h4⟩:=h.some hl
 have hk:t'.kind=t.kind:=congrArg (·.1) h3.symm
 have hs:hdS (u'++v') [[61]]=hdS (u++v) [[61]]:=by
  match u,u',h4 with
  |[],[],_=>exact(hB [[61]] (by simp)).symm
  |a::u,b::u',h4=>
   simp only[List.map_cons,List.cons.injEq]at h4
   exact(isS_key h4.1 _).symm
 have e1:∀ (q:Ps) (t:Tk) (r:List Tk),q.toks=t::r→Go.Proofs.YthfgpkdbclogpaaGreatDoor.sSet q=(t.kind==1&&hdS r [[61]]):=fun q t r hq=>by
  unfold Go.Proofs.YthfgpkdbclogpaaGreatDoor.sSet hdS
  rw[hq]
  cases r with
  |nil=>simp
  |cons a b=>rfl
 rw[e1 p' t' _ h2,e1 p t _ h1,hk,hs]
end
end Go.Proofs.YthfgpkdbclogpaaGreatDoor
namespace Go.Proofs.YthfgpkdbclogpaaGreatDoor
open Go.RowKit Go.Shelf
def Tl (x:List UInt8):Prop:=x=[]∨(isDg (x.getD 0 0)=false∧isNm (x.getD 0 0)=false∧(x.getD 0 0).toNat≠61∧(x.getD 0 0).toNat≠47)
theorem rch_app (h:UInt8→Bool)(x:List UInt8):∀ r:List UInt8,(rch h r<r.length∨h (x.getD 0 0)=false∨x=[])→rch h (r++x)=rch h r
 |[],hc=>by
  rcases hc with hc|hc|hc
  ·exact absurd hc (by simp)
  ·cases x with
   |nil=>rfl
   |cons c r=>
    have h0:h c=false:=hc
    show rch h (c::r)=0
    unfold rch
    rw[h0]
    rfl
  ·subst hc;rfl
 |c::r,hc=>by
  show(bif h c then rch h (r++x)+1 else 0)=(bif h c then rch h r+1 else 0)
  cases hh:h c with
  |false=>rfl
  |true=>
   have hc2:rch h r<r.length∨h (x.getD 0 0)=false∨x=[]:=by
    rcases hc with hc|hc
    ·left
     have e:rch h (c::r)=rch h r+1:=by show(bif h c then rch h r+1 else 0)=_;rw[hh];rfl
     rw[e,List.length_cons]at hc
     omega
    ·exact .inr hc
   rw[rch_app h x r hc2]
theorem hd_app {r:List UInt8}(hr:r≠[])(x:List UInt8):(r++x).getD 0 0=r.getD 0 0:=by
 cases r with
 |nil=>exact absurd rfl hr
 |cons a b=>rfl
section
variable {x:List UInt8}
theorem sgn_app (hx:Tl x){r:List UInt8}(hr:r≠[]):sgn (r++x)=sgn r:=by
 have h2:two2 (r++x)=two2 r:=by
  match r,hr with
  |a::b::r,_=>rfl
  |[a],_=>
   rcases hx with e|⟨_,_,h61,h47⟩
   ·subst e;rfl
   ·match x,h61,h47 with
    |[],_,_=>rfl
    |c::y,h61,h47=>
     have e1:c.toNat≠61:=h61
     have e2:c.toNat≠47:=h47
     show([[61,61],[33,61],[60,61],[47,47]]:List (List Nat)).contains [a.toNat,c.toNat]=([[61,61],[33,61],[60,61],[47,47]]:List (List Nat)).contains [a.toNat]
     simp[e1,e2]
 unfold sgn
 rw[h2,hd_app hr]
theorem beg_app (hx:Tl x){r:List UInt8}(hr:r≠[]):beg (r++x)=beg r:=by
 unfold beg
 rw[hd_app hr,sgn_app hx hr]
theorem dg_app (hx:Tl x)(r:List UInt8):rch isDg (r++x)=rch isDg r:=by
 refine rch_app isDg x r ?_
 rcases hx with e|⟨h,_⟩
 ·exact .inr (.inr e)
 ·exact .inr (.inl h)
theorem noInt_app (hx:Tl x){r:List UInt8}(hr:r≠[]):noInt (r++x)=noInt r:=by
 unfold noInt
 rw[dg_app hx,hd_app hr,List.take_append_of_le_length (rch_le isDg r)]
end
def opF (c:UInt8)(o:Nat):Nat:=if isOpn c then o+1 else if isCls c then o-1 else o
structure Rt (A A':List (Nat×List UInt8×Nat))(x:List UInt8)(d:Nat)(L L':List UInt8)(p p':Sp):Prop where
 rest:L'.drop p'.pos=L.drop p.pos++x
 pos:p'.pos≤L'.length
 ins:p'.ins=p.ins
 opn:p'.opn=p.opn+d
 toks:∃ u,p.toks.map tkey=A++u∧p'.toks.map tkey=A'++u
section
variable {A A':List (Nat×List UInt8×Nat)} {x:List UInt8} {d:Nat} {L L':List UInt8} {p p':Sp}
theorem Rt.len (h:Rt A A' x d L L' p p'):L'.length-p'.pos=L.length-p.pos+x.length:=by
 have:=congrArg List.length h.rest
 rw[List.length_append,List.length_drop,List.length_drop]at this
 exact this
theorem Rt.add (h:Rt A A' x d L L' p p')(k:Nat):Rt A A' x d L L' (p.add k) (p'.add k):=by
 obtain⟨u,h1,h2⟩:=h.toks
 exact⟨h.rest,h.pos,h.ins,h.opn,u++[(k,[],0)],by show(p.toks++[_]).map tkey=_;rw[List.map_append,h1,List.append_assoc];rfl,by show(p'.toks++[_]).map tkey=_;rw[List.map_append,h2,List.append_assoc];rfl⟩
theorem Rt.setIns (h:Rt A A' x d L L' p p')(l:List Nat):Rt A A' x d L L' {p with ins:=l} {p' with ins:=l}:=⟨h.rest,h.pos,rfl,h.opn,h.toks⟩
theorem Rt.top (h:Rt A A' x d L L' p p'):p'.top=p.top:=by unfold Sp.top;rw[h.ins]
theorem outF_rt (i:Nat):∀ (f:Nat) (p p':Sp),Rt A A' x d L L' p p'→Rt A A' x d L L' (outF i f p) (outF i f p')
 |0,_,_,h=>h
 |f+1,p,p',h=>by
  by_cases hi:i<p.top
  ·rw[outF_step i f p hi,outF_step i f p' (by rw[h.top];exact hi),h.ins]
   exact outF_rt i f _ _ ((h.setIns _).add 8)
  ·rw[outF_stop i _ p hi,outF_stop i _ p' (by rw[h.top];exact hi)]
   exact h
theorem Rt.come (h:Rt A A' x d L L' p p')(i:Nat):Rt A A' x d L L' (p.come i) (p'.come i):=by
 show Rt A A' x d L L' (outF i _ _) (outF i _ _)
 by_cases ht:p.top<i
 ·rw[if_pos ht,if_pos (show p'.top<i by rw[h.top];exact ht),h.ins]
  exact outF_rt i _ _ _ ((h.setIns _).add 7)
 ·rw[if_neg ht,if_neg (show ¬p'.top<i by rw[h.top];exact ht),h.ins]
  exact outF_rt i _ _ _ h
theorem Rt.refu (h:Rt A A' x d L L' p p')(hx:Tl x)(hp:p.pos<L.length){i:Nat}(h0:refu L p i=0):Go.Proofs.YthfgpkdbclogpaaGreatDoor.refu L' p' i=0∨(d≠0∧Go.Proofs.YthfgpkdbclogpaaGreatDoor.refu L' p' i=2):=by
 have hne:L.drop p.pos≠[]:=List.length_pos_iff.1 (by rw[List.length_drop];omega)
 unfold Go.Proofs.YthfgpkdbclogpaaGreatDoor.refu at h0 ⊢
 rw[h.rest,h.top,h.ins,h.opn]
 simp only[beg_app hx hne,hd_app hne,noInt_app hx hne]at h0 ⊢
 split at h0
 ·cases h0
 rename_i h1
 rw[if_neg (fun e=>h1 (e.imp id fun e=>⟨e.1,by omega⟩))]
 split at h0
 ·cases h0
 rename_i h2
 rw[if_neg h2]
 split at h0
 ·cases h0
 rename_i h3
 rw[if_neg h3]
 split at h0
 ·cases h0
 rename_i h4
 by_cases h5:(isOpn ((L.drop p.pos).getD 0 0)=true∧p.opn+d=30)∨(p.top<i∧30<p.ins.length)
 ·rw[if_pos h5]
  refine .inr ⟨fun hd=>h4 ?_,rfl⟩
  subst hd
  exact h5
 ·rw[if_neg h5]
  exact .inl rfl
def Sk (G:List UInt8→Prop)(x:List UInt8)(d:Nat):Prop:=∀ (o:Nat) (r:List UInt8),G r→(o=0∨skp o r.length r<r.length)→skp (o+d) (r++x).length (r++x)=skp o r.length r
theorem Rt.skip {G:List UInt8→Prop}(hG:Sk G x d)(h:Rt A A' x d L L' p p')(hp:p.pos≤L.length)(hg:G (L.drop p.pos))(hc:p.opn=0∨(p.skip L).pos<L.length):Rt A A' x d L L' (p.skip L) (p'.skip L'):=by
 have hrl:(L.drop p.pos).length=L.length-p.pos:=List.length_drop
 have e1:skp p.opn L.length (L.drop p.pos)=skp p.opn (L.drop p.pos).length (L.drop p.pos):=skp_fuel _ _ _ _ (by omega) (Nat.le_refl _)
 have e2:skp p'.opn L'.length (L'.drop p'.pos)=skp (p.opn+d) (L.drop p.pos++x).length (L.drop p.pos++x):=by
  rw[←h.rest,←h.opn]
  exact skp_fuel _ _ _ _ (by rw[List.length_drop];omega) (Nat.le_refl _)
 have hle:=skp_len p.opn (L.drop p.pos).length (L.drop p.pos)
 have hc2:p.opn=0∨skp p.opn (L.drop p.pos).length (L.drop p.pos)<(L.drop p.pos).length:=by
  rcases hc with hc|hc
  ·exact .inl hc
  ·right
   have:p.pos+skp p.opn L.length (L.drop p.pos)<L.length:=hc
   rw[e1]at this
   omega
 have e3:=hG p.opn (L.drop p.pos) hg hc2
 have e4:(p'.skip L').pos=p'.pos+skp p.opn (L.drop p.pos).length (L.drop p.pos):=by show p'.pos+skp p'.opn L'.length (L'.drop p'.pos)=_;rw[e2,e3]
 have e5:(p.skip L).pos=p.pos+skp p.opn (L.drop p.pos).length (L.drop p.pos):=by show p.pos+skp p.opn L.length (L.drop p.pos)=_;rw[e1]
 have hl:=h.len
 have hpos:=h.pos
 refine⟨?_,?_,h.ins,h.opn,h.toks⟩
 ·rw[e4,e5,←List.drop_drop,←List.drop_drop,h.rest,List.drop_append_of_le_length hle]
 ·rw[e4];omega
end
end Go.Proofs.YthfgpkdbclogpaaGreatDoor
namespace Go.Proofs.YthfgpkdbclogpaaGreatDoor
open Go.RowKit
def WrAt (B b:Nat)(n:Int)(p:Value)(bs:List Value)(w:World):Prop:=B≤b∧∃ v,w.heap[b]? =some (.cells #[p,v,.int .i64 n] 210 (0,0))∧w.ownsRow B 5 1 v bs.length bs∧v.ownBlock≠some b
def WrIs (B b:Nat)(n:Int)(bs:List Value)(w:World):Prop:=WrAt B b n (.pointer none) bs w∨WrAt B b n (.pointer (some ⟨b,0,none⟩)) bs w
theorem rowKeep {w w':World}{B n sz:Nat}{e:TypeId}{v:Value}{xs:List Value}(h:w.ownsRow B e sz v n xs)(hk:∀ g,v.ownBlock=some g→w'.heap[g]? =w.heap[g]?):w'.ownsRow B e sz v n xs:=by
 refine⟨h.1,?_⟩
 rcases h.2 with h2|⟨g,cap,cur,a,b,hg,r⟩
 ·exact .inl h2
 ·exact .inr ⟨g,cap,cur,a,b,(hk g (by rw[a];rfl)).trans hg,r⟩
theorem WrAt.used {B b:Nat}{n:Int}{p:Value}{bs:List Value}{w:World}(h:WrAt B b n p bs w):WrAt B b n (.pointer (some ⟨b,0,none⟩)) bs (w.setCell ⟨b,0,none⟩ (.pointer (some ⟨b,0,none⟩))):=by
 obtain⟨hB,v,hb,hown,hne⟩:=h
 refine⟨hB,v,by simp[World.setCell,Array.getElem?_modify,hb],rowKeep hown fun g hg=>?_,hne⟩
 exact Below.heap_setCell w ⟨b,0,none⟩ _ g (fun e=>hne (by rw[hg];first|rw[e]|rw[←e]))
end Go.Proofs.YthfgpkdbclogpaaGreatDoor
namespace Go.Proofs.YthfgpkdbclogpaaGreatDoor
open Go.RowKit Go.Joins
theorem WrIs.drew {B b:Nat}{n:Int}{bs:List Value}{w:World}(h:WrIs B b n bs w):WrIs B b n bs w.drew:=h
theorem Kp.drew {B b:Nat}{w w':World}(h:Kp B b w w'):Kp B b w w'.drew:=⟨h.1.drew,h.2⟩
end Go.Proofs.YthfgpkdbclogpaaGreatDoor
namespace Go.Proofs.YthfgpkdbclogpaaGreatDoor
end Go.Proofs.YthfgpkdbclogpaaGreatDoor
namespace Go.Proofs.YthfgpkdbclogpaaGreatDoor
open Go.RowKit Go.Shelf
structure Std (L:List UInt8)(t:Tk):Prop where
 plain:t.kind=1∨t.kind=2∨t.kind=4∨t.kind=5→t.text≠[]∧t.pos+t.text.length≤L.length∧(L.drop t.pos).take t.text.length=t.text
 quote:t.kind=3→t.pos<L.length∧(L.getD t.pos 0).toNat=34
 none_:6≤t.kind→t.text=[]
 num:t.kind≠2→t.num=0
 kind:1≤t.kind∧t.kind≤8
 pos:t.pos≤L.length
 small:t.num≤9007199254740991
def AllStd (L:List UInt8)(p:Sp):Prop:=∀ t∈p.toks,Std L t
theorem AllStd.snoc {L:List UInt8}{p q:Sp}(h:AllStd L p)(t:Tk)(ht:Std L t)(hq:q.toks=p.toks++[t]):AllStd L q:=by
 intro x hx
 rw[hq]at hx
 rcases List.mem_append.1 hx with hx|hx
 ·exact h x hx
 ·rw[List.mem_singleton.1 hx];exact ht
theorem AllStd.add {L:List UInt8}{p:Sp}(h:AllStd L p)(k:Nat)(h1:6≤k)(h2:k≤8)(hp:p.pos≤L.length):AllStd L (p.add k):=
 h.snoc ⟨k,[],0,p.pos⟩ ⟨fun hk=>by exfalso;simp only at hk;omega,fun hk=>by exfalso;simp only at hk;omega,fun _=>rfl,fun _=>rfl,⟨by show 1≤k;omega,h2⟩,hp,by show 0≤_;omega⟩ rfl
end Go.Proofs.YthfgpkdbclogpaaGreatDoor
namespace Go.Proofs.YthfgpkdbclogpaaGreatDoor.Lw
open Go.RowKit Go.Shelf
def lvl (t:Tk):Int:=if t.kind=7 then 1 else if t.kind=8 then -1 else 0
def dep:List Tk→Int
 |[]=>0
 |t::r=>lvl t+dep r
theorem dep_snoc:∀ (l:List Tk) (t:Tk),dep (l++[t])=dep l+lvl t
 |[],t=>by show lvl t+0=0+lvl t;omega
 |a::r,t=>by show lvl a+dep (r++[t])=lvl a+dep r+lvl t;rw[dep_snoc r t];omega
def lastP (l:List Tk):Nat:=match l.getLast? with|some t=>t.pos|none=>0
def lastK (l:List Tk):Nat:=match l.getLast? with|some t=>t.kind|none=>6
theorem lastP_snoc (l:List Tk)(t:Tk):lastP (l++[t])=t.pos:=by unfold lastP;simp
structure Nxt (n:Nat)(l:List Tk)(t:Tk):Prop where
 rise:lastP l≤t.pos
 most:t.pos≤n
 d0:0≤dep l+lvl t
 d30:dep l+lvl t≤30
 behind:t.kind=7∨t.kind=8→lastK l=6∨lastK l=8
def AllNxt (n:Nat)(l:List Tk):Prop:=∀ (i:Nat) (h:i<l.length),Nxt n (l.take i) l[i]
theorem AllNxt.snoc {n:Nat}{l:List Tk}(h:AllNxt n l){t:Tk}(ht:Nxt n l t):AllNxt n (l++[t]):=by
 intro i hi
 by_cases hl:i<l.length
 ·have e1:(l++[t]).take i=l.take i:=by rw[List.take_append_of_le_length (by omega)]
  have e2:(l++[t])[i]=l[i]:=List.getElem_append_left hl
  rw[e1,e2];exact h i hl
 ·have hi2:i=l.length:=by simp at hi;omega
  subst hi2
  have e1:(l++[t]).take l.length=l:=by simp
  have e2:(l++[t])[l.length]=t:=by simp
  rw[e1,e2];exact ht
def Ps (l:List Nat):Prop:=∃ ys:List Nat,l=ys++[0]∧∀ y∈ys,0<y
theorem Ps.pop {l:List Nat}(h:Ps l)(h2:2≤l.length):Ps (l.drop 1):=by
 obtain⟨ys,rfl,hy⟩:=h
 cases ys with
 |nil=>simp at h2
 |cons a r=>exact⟨r,rfl,fun y hm=>hy y (List.mem_cons_of_mem _ hm)⟩
theorem Ps.push {l:List Nat}(h:Ps l){i:Nat}(hi:0<i):Ps (i::l):=by
 obtain⟨ys,rfl,hy⟩:=h
 refine⟨i::ys,rfl,fun y hm=>?_⟩
 rcases List.mem_cons.1 hm with e|e
 ·rw[e];exact hi
 ·exact hy y e
structure Lv (n:Nat)(p:Sp):Prop where
 all:AllNxt n p.toks
 deep:dep p.toks+1=(p.ins.length:Int)
 last:lastP p.toks≤p.pos
 ps:Ps p.ins
theorem Lv.snoc {n:Nat}{p q:Sp}(h:Lv n p)(t:Tk)(hq:q.toks=p.toks++[t])(ht:Nxt n p.toks t)(hd:dep p.toks+lvl t+1=(q.ins.length:Int))(hp:t.pos≤q.pos)(hps:Ps q.ins):Lv n q:=
 ⟨by rw[hq];exact h.all.snoc ht,by rw[hq,dep_snoc];exact hd,by rw[hq,lastP_snoc];exact hp,hps⟩
theorem come_same (p:Sp):p.come p.top=p:=by
 show outF p.top _ (if p.top<p.top then _ else p)=p
 rw[if_neg (Nat.lt_irrefl _)]
 exact outF_stop _ _ _ (Nat.lt_irrefl _)
end Go.Proofs.YthfgpkdbclogpaaGreatDoor.Lw
namespace Go.Proofs.YthfgpkdbclogpaaGreatDoor
open Go.RowKit Go.Shelf
structure Lx where
 b:List UInt8
 k:Nat×List UInt8×Nat
 sp:Bool
def Lx.bl (x:Lx):List UInt8:=bif x.sp then[32]else[]
def lxB:List Lx→List UInt8
 |[]=>[]
 |x::xs=>x.b++(x.bl++lxB xs)
structure LxOk (x:Lx)(r:List UInt8):Prop where
 ne:x.b≠[]
 tok:∀ (L:List UInt8) (p:Sp),L.drop p.pos=x.b++r→∃ t,tok1 L p= .ok ⟨p.pos+x.b.length,p.toks++[t],p.ins,opF (x.b.getD 0 0) p.opn⟩∧tkey t=x.k
 beg:beg (x.b++r)=true
 no:isDg (x.b.getD 0 0)=true→noInt (x.b++r)=false
 hd:(x.b.getD 0 0).toNat≠32∧(x.b.getD 0 0).toNat≠10∧(x.b.getD 0 0).toNat≠35
def LxsOk:List Lx→List UInt8→Prop
 |[],_=>True
 |x::xs,r=>LxOk x (x.bl++(lxB xs++r))∧LxsOk xs r
def opA:List Lx→Nat→Nat
 |[],o=>o
 |x::xs,o=>opA xs (opF (x.b.getD 0 0) o)
def clsOk:List Lx→Nat→Prop
 |[],_=>True
 |x::xs,o=>(isCls (x.b.getD 0 0)=true→0<o)∧clsOk xs (opF (x.b.getD 0 0) o)
def EndOk (r:List UInt8)(o:Nat):Prop:=r=[]∨((r.getD 0 0).toNat≠32∧(r.getD 0 0).toNat≠35∧((r.getD 0 0).toNat=10→o=0))
theorem skp_sp' (o f:Nat)(r:List UInt8)(hf:r.length+1≤f):skp o f (32::r)=skp o f r+1:=by
 have h0:isBl o 32=true:=by unfold isBl;rw[show decide ((32:UInt8).toNat=32)=true by decide];rfl
 have h1:rch (isBl o) (32::r)=rch (isBl o) r+1:=by show(bif isBl o 32 then _ else 0)=_;rw[h0];rfl
 by_cases h:((r.drop (rch (isBl o) r)).getD 0 0).toNat=35
 ·rw[skp_go o f r (by omega) h,skp_go o f (32::r) (by simpa using hf) (by rw[h1];exact h),h1]
  show rch (isBl o) r+1+rch isNl (r.drop (rch (isBl o) r))+skp o f ((32::r).drop (rch (isBl o) r+1+rch isNl (r.drop (rch (isBl o) r))))=_
  rw[show rch (isBl o) r+1+rch isNl (r.drop (rch (isBl o) r))=(rch (isBl o) r+rch isNl (r.drop (rch (isBl o) r)))+1 by omega,List.drop_succ_cons]
  omega
 ·rw[skp_stop o f r h,skp_stop o f (32::r) (by rw[h1];exact h),h1]
theorem skp_no' (o f:Nat)(c:UInt8)(r:List UInt8)(h:isBl o c=false)(h35:c.toNat≠35):skp o f (c::r)=0:=by
 have h1:rch (isBl o) (c::r)=0:=by show(bif isBl o c then _ else 0)=0;rw[h];rfl
 rw[skp_stop o f (c::r) (by rw[h1];exact h35),h1]
theorem skp_bl {o f:Nat}{r:List UInt8}(sp:Bool)(h:r=[]∨((r.getD 0 0).toNat≠32∧(r.getD 0 0).toNat≠35∧((r.getD 0 0).toNat=10→o=0)))(hf:r.length+1≤f):skp o f ((bif sp then[32]else[])++r)=(bif sp then[32]else[]:List UInt8).length:=by
 have h0:skp o f r=0:=by
  cases r with
  |nil=>cases f<;>rfl
  |cons c r=>
   have h2:=h.resolve_left (by simp)
   have h3:c.toNat≠32:=h2.1
   refine skp_no' o f c r ?_ h2.2.1
   unfold isBl
   rw[show decide (c.toNat=32)=false by simpa using h3,Bool.false_or]
   by_cases h10:c.toNat=10
   ·rw[h2.2.2 h10];simp
   ·rw[show decide (c.toNat=10)=false by simpa using h10];rfl
 cases sp with
 |false=>exact h0
 |true=>
  show skp o f (32::r)=1
  rw[skp_sp' o f r hf,h0]
theorem lxB_app:∀ (xs ys:List Lx),lxB (xs++ys)=lxB xs++lxB ys
 |[],_=>rfl
 |x::xs,ys=>by show x.b++(x.bl++lxB (xs++ys))=(x.b++(x.bl++lxB xs))++lxB ys;rw[lxB_app xs ys];simp
theorem lt_num {c:UInt8}(h:isLt c=true):65≤c.toNat∧c.toNat≤122∧c.toNat≠91∧c.toNat≠93:=by
 unfold isLt at h
 simp at h
 omega
theorem dg_num {c:UInt8}(h:isDg c=true):48≤c.toNat∧c.toNat≤57:=by
 unfold isDg at h
 simpa using h
theorem opF_id {c:UInt8}{o:Nat}(h:c.toNat≠40∧c.toNat≠41∧c.toNat≠91∧c.toNat≠93∧c.toNat≠123∧c.toNat≠125):opF c o=o:=by
 have h1:isOpn c=false:=by unfold isOpn;simp;omega
 have h2:isCls c=false:=by unfold isCls;simp;omega
 unfold opF
 rw[h1,h2]
 rfl
theorem rch_all (h:UInt8→Bool)(r:List UInt8)(hr:r=[]∨h (r.getD 0 0)=false):∀ n:List UInt8,(∀ c∈n,h c=true)→rch h (n++r)=n.length
 |[],_=>by
  cases r with
  |nil=>rfl
  |cons c r=>
   have h2:h c=false:=hr.resolve_left (by simp)
   show(bif h c then _ else 0)=0
   rw[h2]
   rfl
 |c::n,hn=>by
  show(bif h c then rch h (n++r)+1 else 0)=_
  rw[hn c List.mem_cons_self,rch_all h r hr n fun d hd=>hn d (List.mem_cons_of_mem _ hd)]
  rfl
theorem lx_name {n r:List UInt8}(hn:n≠[])(h1:isLt (n.getD 0 0)=true)(h2:∀ c∈n,isNm c=true)(h3:r=[]∨isNm (r.getD 0 0)=false)(sp:Bool):LxOk ⟨n,(bif isWd n then 5 else 1,n,0),sp⟩ r:=by
 have hl:=lt_num h1
 have hd:isDg (n.getD 0 0)=false:=by
  cases hz:isDg (n.getD 0 0)with
  |false=>rfl
  |true=>have:=dg_num hz;omega
 have hh:(n++r).getD 0 0=n.getD 0 0:=hd_app hn r
 have hr:=rch_all isNm r h3 n h2
 refine⟨hn,fun L p hL=>⟨⟨bif isWd n then 5 else 1,n,0,p.pos⟩,?_,rfl⟩,?_,fun h=>(by rw[show isDg (n.getD 0 0)=true from h]at hd;cases hd),(by show(n.getD 0 0).toNat≠32∧(n.getD 0 0).toNat≠10∧(n.getD 0 0).toNat≠35;omega)⟩
 ·unfold tok1
  rw[hL]
  dsimp only
  rw[hh,if_neg (by omega),hd,if_neg (by decide),h1,if_pos rfl,hr,List.take_left',opF_id (by omega)]
  rfl
 ·show beg (n++r)=true
  unfold beg
  rw[hh,h1]
  rfl
theorem lx_int {n r:List UInt8}(hn:n≠[])(h2:∀ c∈n,isDg c=true)(hv:valD 0 n≤9007199254740991)(h0:n.length≤1∨(n.getD 0 0).toNat≠48)(h3:r=[]∨isDg (r.getD 0 0)=false)(sp:Bool):LxOk ⟨n,(2,n,valD 0 n),sp⟩ r:=by
 have h1:isDg (n.getD 0 0)=true:=by
  cases n with
  |nil=>exact absurd rfl hn
  |cons c n=>exact h2 c List.mem_cons_self
 have hl:=dg_num h1
 have hh:(n++r).getD 0 0=n.getD 0 0:=hd_app hn r
 have hr:=rch_all isDg r h3 n h2
 refine⟨hn,fun L p hL=>⟨⟨2,n,valD 0 n,p.pos⟩,?_,rfl⟩,?_,fun _=>?_,(by show(n.getD 0 0).toNat≠32∧(n.getD 0 0).toNat≠10∧(n.getD 0 0).toNat≠35;omega)⟩
 ·unfold tok1
  rw[hL]
  dsimp only
  rw[hh,if_neg (by omega),h1,if_pos rfl,hr,List.take_left' rfl,opF_id (by omega)]
 ·show beg (n++r)=true
  unfold beg
  rw[hh,h1]
  simp
 ·show noInt (n++r)=false
  unfold noInt
  rw[hr,List.take_left' rfl,hh,Bool.or_eq_false_iff]
  refine⟨by rw[decide_eq_false_iff_not];omega,?_⟩
  rcases h0 with h0|h0
  ·rw[show decide (1<n.length)=false by rw[decide_eq_false_iff_not];omega];rfl
  ·rw[show decide ((n.getD 0 0).toNat=48)=false by rw[decide_eq_false_iff_not];exact h0,Bool.and_false]
theorem lx_one {c:UInt8}{r:List UInt8}(h1:isSg1 c=true)(h2:two2 (c::r)=false)(sp:Bool):LxOk ⟨[c],(4,[c],0),sp⟩ r:=by
 have hs:sgn (c::r)=1:=by
  unfold sgn
  rw[h2]
  show(bif isSg1 c then 1 else 0)=1
  rw[h1]
  rfl
 have hn:c.toNat∈[61,60,43,45,42,37,40,41,91,93,123,125,44,58]:=by unfold isSg1 at h1;simpa using h1
 have hc:c.toNat≠34∧c.toNat≠32∧c.toNat≠10∧c.toNat≠35∧¬(48≤c.toNat∧c.toNat≤57)∧isLt c=false:=by
  have hlt:isLt c=false:=by
   cases hz:isLt c with
   |false=>rfl
   |true=>
    have:=lt_num hz
    simp at hn
    omega
  simp at hn
  exact⟨by omega,by omega,by omega,by omega,by omega,hlt⟩
 have hd:isDg c=false:=by
  cases hz:isDg c with
  |false=>rfl
  |true=>exact absurd (dg_num hz) hc.2.2.2.2.1
 refine⟨by simp,fun L p hL=>⟨⟨4,[c],0,p.pos⟩,?_,rfl⟩,?_,fun h=>(by rw[show isDg c=true from h]at hd;cases hd),⟨hc.2.1,hc.2.2.1,hc.2.2.2.1⟩⟩
 ·unfold tok1
  rw[hL]
  show(if c.toNat=34 then _ else if isDg c=true then _ else if isLt c=true then _ else Except.ok (⟨p.pos+sgn (c::r),p.toks++[⟨4,(c::r).take (sgn (c::r)),0,p.pos⟩],p.ins,opF c p.opn⟩:Sp))=_
  rw[if_neg hc.1,if_neg (by rw[hd];decide),if_neg (by rw[hc.2.2.2.2.2];decide),hs]
  rfl
 ·show beg (c::r)=true
  unfold beg
  rw[hs]
  simp
theorem lx_two {a b:UInt8}{r:List UInt8}(h2:two2 [a,b]=true)(sp:Bool):LxOk ⟨[a,b],(4,[a,b],0),sp⟩ r:=by
 have hn:[a.toNat,b.toNat]∈([[61,61],[33,61],[60,61],[47,47]]:List (List Nat)):=by unfold two2 at h2;simpa using h2
 have hs:sgn (a::b::r)=2:=by
  unfold sgn
  rw[show two2 (a::b::r)=two2 [a,b]from rfl,h2]
  rfl
 have ha:a.toNat=61∨a.toNat=33∨a.toNat=60∨a.toNat=47:=by
  simp at hn
  omega
 have hlt:isLt a=false:=by
  cases hz:isLt a with
  |false=>rfl
  |true=>have:=lt_num hz;omega
 have hd:isDg a=false:=by
  cases hz:isDg a with
  |false=>rfl
  |true=>have:=dg_num hz;omega
 refine⟨by simp,fun L p hL=>⟨⟨4,[a,b],0,p.pos⟩,?_,rfl⟩,?_,fun h=>(by rw[show isDg a=true from h]at hd;cases hd),(by show a.toNat≠32∧a.toNat≠10∧a.toNat≠35;omega)⟩
 ·unfold tok1
  rw[hL]
  show(if a.toNat=34 then _ else if isDg a=true then _ else if isLt a=true then _ else Except.ok (⟨p.pos+sgn (a::b::r),p.toks++[⟨4,(a::b::r).take (sgn (a::b::r)),0,p.pos⟩],p.ins,opF a p.opn⟩:Sp))=_
  rw[if_neg (by omega),if_neg (by rw[hd];decide),if_neg (by rw[hlt];decide),hs]
  rfl
 ·show beg (a::b::r)=true
  unfold beg
  rw[hs]
  simp
def kW (s:List UInt8):Lx:=⟨s,(bif isWd s then 5 else 1,s,0),false⟩
def kI (n:Nat):Lx:=⟨Lib.decDigits n,(2,Lib.decDigits n,n),false⟩
def kS (s:List UInt8):Lx:=⟨s,(4,s,0),false⟩
def Lx.and (x:Lx):Lx:={x with sp:=true}
def lastNo:List Lx→Prop
 |[]=>False
 |[x]=>x.sp=false
 |_::y::r=>lastNo (y::r)
theorem opA_app:∀ (xs ys:List Lx) (o:Nat),opA (xs++ys) o=opA ys (opA xs o)
 |[],_,_=>rfl
 |_::xs,ys,_=>opA_app xs ys _
theorem cls_app:∀ (xs ys:List Lx) (o:Nat),clsOk xs o→clsOk ys (opA xs o)→clsOk (xs++ys) o
 |[],_,_,_,h=>h
 |_::xs,ys,_,h,g=>⟨h.1,cls_app xs ys _ h.2 g⟩
theorem ok_app:∀ (xs ys:List Lx) (r:List UInt8),LxsOk xs (lxB ys++r)→LxsOk ys r→LxsOk (xs++ys) r
 |[],_,_,_,h=>h
 |x::xs,ys,r,h,g=>by
  refine⟨?_,ok_app xs ys r h.2 g⟩
  have e:lxB (xs++ys)++r=lxB xs++(lxB ys++r):=by rw[lxB_app];simp
  show LxOk x (x.bl++(lxB (xs++ys)++r))
  rw[e]
  exact h.1
structure Wh (xs:List Lx):Prop where
 op:∀ o,opA xs o=o
 cls:∀ o,clsOk xs o
 ok:∀ r:List UInt8,(r=[]∨isNm (r.getD 0 0)=false)→LxsOk xs r
 last:lastNo xs
theorem dec_facts:∀ (m n:Nat),n<m→Lib.decDigits n≠[]∧(∀ c∈Lib.decDigits n,isDg c=true)∧(∀ a,valD a (Lib.decDigits n)=a*10 ^ (Lib.decDigits n).length+n)∧(10≤n→((Lib.decDigits n).getD 0 0).toNat≠48)
 |0,_,h=>by omega
 |m+1,n,h=>by
  have dgk:∀ i,i<10→isDg (UInt8.ofNat (48+i))=true∧(UInt8.ofNat (48+i)).toNat=48+i:=fun i hi=>by
   have e:(UInt8.ofNat (48+i)).toNat=48+i:=by rw[UInt8.toNat_ofNat'];omega
   exact⟨by unfold isDg;rw[e];simp;omega,e⟩
  by_cases h10:n<10
  ·have e:=Lib.decDigits_one h10
   obtain⟨d1,d2⟩:=dgk n h10
   rw[e]
   refine⟨by simp,fun c hc=>by rw[List.mem_singleton.1 hc];exact d1,fun a=>?_,fun h=>by omega⟩
   show valD (10*a+((UInt8.ofNat (48+n)).toNat-48)) []=_
   rw[d2]
   show 10*a+(48+n-48)=a*10 ^ 1+n
   omega
  ·have e:Lib.decDigits n=Lib.decDigits (n/10)++[UInt8.ofNat (48+n%10)]:=by rw[Lib.decDigits,dif_neg h10]
   obtain⟨k1,k2,k3,k4⟩:=dec_facts m (n/10) (by omega)
   obtain⟨d1,d2⟩:=dgk (n%10) (Nat.mod_lt _ (by decide))
   have vapp:∀ (l:List UInt8) (a:Nat) (c:UInt8),valD a (l++[c])=10*valD a l+(c.toNat-48):=fun l=>by
    induction l with
    |nil=>intro a c;rfl
    |cons d l ih=>intro a c;exact ih _ c
   rw[e]
   refine⟨by simp,fun c hc=>?_,fun a=>?_,fun _=>?_⟩
   ·rcases List.mem_append.1 hc with h1|h1
    ·exact k2 c h1
    ·rw[List.mem_singleton.1 h1];exact d1
   ·rw[vapp,k3,d2,List.length_append,List.length_singleton,Nat.pow_succ]
    have:=Nat.div_add_mod n 10
    rw[Nat.mul_add,←Nat.mul_assoc,←Nat.mul_assoc,Nat.mul_comm 10 a,Nat.mul_right_comm]
    omega
   ·rw[hd_app k1]
    by_cases h100:n/10<10
    ·rw[Lib.decDigits_one h100]
     show(UInt8.ofNat (48+n/10)).toNat≠48
     rw[(dgk _ h100).2]
     omega
    ·exact k4 (by omega)
theorem dec_val (n:Nat):valD 0 (Lib.decDigits n)=n:=by
 have:=(dec_facts (n+1) n (Nat.lt_succ_self n)).2.2.1 0
 rw[this]
 omega
theorem dg_nm {c:UInt8}(h:isNm c=false):isDg c=false:=by
 unfold isNm at h
 exact(Bool.or_eq_false_iff.1 h).2
theorem wh_int {n:Nat}(h:n≤9007199254740991):Wh [kI n]:=by
 obtain⟨k1,k2,_,k4⟩:=dec_facts (n+1) n (Nat.lt_succ_self n)
 have hh:isDg ((Lib.decDigits n).getD 0 0)=true:=by
  cases hz:Lib.decDigits n with
  |nil=>exact absurd hz k1
  |cons c t=>exact k2 c (by rw[hz];exact List.mem_cons_self)
 have hl:=dg_num hh
 have hid:∀ o,opF ((Lib.decDigits n).getD 0 0) o=o:=fun o=>opF_id (by omega)
 have hc:isCls ((Lib.decDigits n).getD 0 0)=false:=by unfold isCls;rw[decide_eq_false (by omega),decide_eq_false (by omega),decide_eq_false (by omega)];rfl
 refine⟨fun o=>hid o,fun o=>⟨fun e=>by rw[show isCls ((Lib.decDigits n).getD 0 0)=true from e]at hc;exact absurd hc (by decide),trivial⟩,fun r hr=>⟨?_,trivial⟩,rfl⟩
 have hv:=dec_val n
 have:=lx_int (n:=Lib.decDigits n) (r:=r) k1 k2 (by rw[hv];exact h) (by
  by_cases h10:10≤n
  ·exact .inr (k4 h10)
  ·rw[Lib.decDigits_one (by omega)];exact .inl (Nat.le_refl 1)) (hr.imp id fun h=>dg_nm h) false
 rw[hv]at this
 exact this
end Go.Proofs.YthfgpkdbclogpaaGreatDoor
