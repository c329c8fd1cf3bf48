/- 12. -/
import Derived.Deep.RegionHeld3
import Derived.Lib.ItoaMem
import Derived.Test.YthfgpkdbclogpaaGreatDoorTx11
set_option maxHeartbeats 40000000
set_option maxRecDepth 100000
namespace Go.Proofs.YthfgpkdbclogpaaGreatDoor
open Go.RowKit Go.Shelf
def opOk:List Lx→Nat→Bool
 |[],_=>true
 |x::xs,o=>decide (o<30)&&opOk xs (opF (x.b.getD 0 0) o)
theorem lx_go {L:List UInt8}:∀ (xs:List Lx) (p:Sp) (f:Nat) (r:List UInt8),L.drop p.pos=lxB xs++r→p.pos≤L.length→LxsOk xs r→clsOk xs p.opn→opOk xs p.opn=true→EndOk r (opA xs p.opn)→L.length-p.pos<f→
  ∃ q f',toksF L f p.top p=toksF L f' q.top q∧L.length-q.pos<f'∧L.drop q.pos=r∧q.pos≤L.length∧q.toks.map tkey=p.toks.map tkey++xs.map (·.k)∧q.ins=p.ins∧q.opn=opA xs p.opn
 |[],p,f,r,hr,hp,_,_,_,_,hf=>⟨p,f,rfl,hf,hr,hp,by simp,rfl,rfl⟩
 |x::xs,p,f,r,hr,hp,hx,hc,ho,he,hf=>by
  obtain⟨hx1,hx2⟩:=hx
  obtain⟨hc1,hc2⟩:=hc
  obtain⟨ho1,ho2⟩:=Bool.and_eq_true_iff.1 ho
  have ho1:=of_decide_eq_true ho1
  have hr1:L.drop p.pos=x.b++(x.bl++(lxB xs++r)):=by rw[hr];show(x.b++(x.bl++lxB xs))++r=_;simp
  have hhd:(x.b++(x.bl++(lxB xs++r))).getD 0 0=x.b.getD 0 0:=hd_app hx1.ne _
  have hlen:L.length-p.pos=x.b.length+(x.bl.length+(lxB xs++r).length):=by
   have:=congrArg List.length hr1
   rw[List.length_drop,List.length_append,List.length_append]at this
   exact this
  have hb1:0<x.b.length:=List.length_pos_iff.2 hx1.ne
  have hen:endL L p=false:=by
   unfold endL
   rw[hr1,hhd,Bool.or_eq_false_iff]
   exact⟨by rw[decide_eq_false_iff_not];omega,by rw[decide_eq_false_iff_not];exact hx1.hd.2.1⟩
  obtain⟨t,ht,hk⟩:=hx1.tok L p hr1
  have hre:refu L p p.top=0:=by
   unfold refu
   rw[hr1]
   dsimp only
   rw[hhd,hx1.beg]
   rw[if_neg (fun e=>by
    rcases e with e|e
    ·cases e
    ·have:=hc1 e.1;omega),if_neg (fun e=>absurd e.1 (Nat.lt_irrefl _)),if_neg (fun e=>by have:=hx1.no e.1;rw[this]at e;cases e.2),if_neg (fun e=>by
    rcases e with e|e
    ·omega
    ·exact absurd e.1 (Nat.lt_irrefl _))]
  have hgo:=toks_go (L:=L) (f:=f) (i:=p.top) (by omega) hen hre (by rw[Lw.come_same];exact ht)
  have hdrop:L.drop (p.pos+x.b.length)=x.bl++(lxB xs++r):=by
   rw[←List.drop_drop,hr1,List.drop_left]
  have hnext:EndOk (lxB xs++r) (opF (x.b.getD 0 0) p.opn):=by
   match xs,hx2,he with
   |[],_,he=>exact he
   |y::ys,hx2,_=>
    have h9:(lxB (y::ys)++r).getD 0 0=y.b.getD 0 0:=by
     show((y.b++(y.bl++lxB ys))++r).getD 0 0=_
     rw[List.append_assoc]
     exact hd_app hx2.1.ne _
    right
    rw[h9]
    exact⟨hx2.1.hd.1,hx2.1.hd.2.2,fun e=>absurd e hx2.1.hd.2.1⟩
  have hbl:skp (opF (x.b.getD 0 0) p.opn) L.length (x.bl++(lxB xs++r))=x.bl.length:=skp_bl x.sp hnext (by omega)
  have hsk:Sp.skip L ⟨p.pos+x.b.length,p.toks++[t],p.ins,opF (x.b.getD 0 0) p.opn⟩=⟨p.pos+x.b.length+x.bl.length,p.toks++[t],p.ins,opF (x.b.getD 0 0) p.opn⟩:=by
   show(⟨p.pos+x.b.length+skp (opF (x.b.getD 0 0) p.opn) L.length (L.drop (p.pos+x.b.length)),_,_,_⟩:Sp)=_
   rw[hdrop,hbl]
  rw[hsk]at hgo
  have hd2:L.drop (p.pos+x.b.length+x.bl.length)=lxB xs++r:=by rw[←List.drop_drop,hdrop,List.drop_left]
  obtain⟨q,f',j1,j2,j3,j4,j5,j6,j7⟩:=lx_go xs ⟨p.pos+x.b.length+x.bl.length,p.toks++[t],p.ins,opF (x.b.getD 0 0) p.opn⟩ (f-1) r hd2 (by show p.pos+x.b.length+x.bl.length≤_;omega) hx2 hc2 ho2 he (by show L.length-(p.pos+x.b.length+x.bl.length)<f-1;omega)
  refine⟨q,f',hgo.trans j1,j2,j3,j4,?_,j6,j7⟩
  rw[j5]
  show(p.toks++[t]).map tkey++_=_
  rw[List.map_append,List.append_assoc,List.map_singleton,hk]
  rfl
structure LnOk (xs:List Lx)(r:List UInt8):Prop where
 ne:xs≠[]
 ok:LxsOk xs r
 cls:clsOk xs 0
 few:opOk xs 0=true
 all:opA xs 0=0
theorem ln_go {L:List UInt8}{p:Sp}{xs:List Lx}{r:List UInt8}(hp:p.pos≤L.length)(ho:p.opn=0)(hi:p.ins=[0])(hL:L.drop p.pos=lxB xs++r)(hr:r=[]∨r.getD 0 0=10)(h:LnOk xs r):
  ∃ q,lineF L p= .ok q∧q.ins=[0]∧q.opn=0∧L.drop q.pos=r∧q.pos≤L.length∧q.toks.map tkey=p.toks.map tkey++(xs.map (·.k)++[(6,[],0)]):=by
 obtain⟨x,ys,rfl⟩:=List.exists_cons_of_ne_nil h.ne
 have hx1:=h.ok.1
 have hhd:(lxB (x::ys)++r).getD 0 0=x.b.getD 0 0:=by
  show((x.b++(x.bl++lxB ys))++r).getD 0 0=_
  rw[List.append_assoc]
  exact hd_app hx1.ne _
 have hsk:skp p.opn L.length (L.drop p.pos)=0:=by
  obtain⟨c,s,hcs⟩:∃ c s,lxB (x::ys)++r=c::s:=List.exists_cons_of_ne_nil (by show(x.b++_)++r≠[];simp[hx1.ne])
  rw[hL,ho]
  rw[hcs]at hhd ⊢
  have hc:c=x.b.getD 0 0:=hhd
  have h32:=hx1.hd.1
  have h35:=hx1.hd.2.2
  rw[←hc]at h32 h35
  exact skp_no' 0 _ c s (by unfold isBl;simp[h32]) h35
 have hpp:p.skip L=p:=by
  show(⟨p.pos+skp p.opn L.length (L.drop p.pos),p.toks,p.ins,p.opn⟩:Sp)=p
  rw[hsk]
  rfl
 have ht:p.top=0:=by unfold Sp.top;rw[hi];rfl
 have hend:EndOk r (opA (x::ys) p.opn):=by
  rcases hr with rfl|hr
  ·exact .inl rfl
  ·exact .inr ⟨by rw[hr];decide,by rw[hr];decide,fun _=>by rw[ho];exact h.all⟩
 obtain⟨q,f',j1,j2,j3,j4,j5,j6,j7⟩:=lx_go (L:=L) (x::ys) p (L.length+1) r hL hp h.ok (by rw[ho];exact h.cls) (by rw[ho];exact h.few) hend (by omega)
 have hqe:endL L q=true:=by
  unfold endL
  rw[j3]
  rcases hr with rfl|hr
  ·have:=congrArg List.length j3
   rw[List.length_drop]at this
   simp at this
   have hq:q.pos=L.length:=by omega
   rw[hq]
   simp
  ·rw[hr];simp
 have hfin:toksF L (L.length+1) 0 p= .ok q:=by rw[ht]at j1;exact j1.trans (toks_end j2 hqe)
 have hmore:p.toks.length<q.toks.length:=by
  have a:=congrArg List.length j5
  rw[List.length_map,List.length_append,List.length_map,List.length_map]at a
  rw[a]
  simp
 have hq0:q.opn=0:=by rw[j7,ho];exact h.all
 refine⟨q.add 6,?_,j6.trans hi,hq0,j3,j4,?_⟩
 ·unfold lineF
  rw[hsk,hpp,hfin]
  dsimp only
  rw[if_neg (by rw[hq0];exact Nat.lt_irrefl _),if_pos hmore]
 ·show(q.toks++[_]).map tkey=_
  rw[List.map_append,j5,List.append_assoc]
  rfl
def lnB:List (List Lx)→List UInt8
 |[]=>[]
 |[x]=>lxB x
 |x::y::r=>lxB x++10::lnB (y::r)
def lnK:List (List Lx)→List (Nat×List UInt8×Nat)
 |[]=>[]
 |x::r=>(x.map (·.k)++[(6,[],0)])++lnK r
def LnsOk:List (List Lx)→Prop
 |[]=>True
 |[x]=>LnOk x []
 |x::y::r=>(∀ s,LnOk x (10::s))∧LnsOk (y::r)
theorem come0 {p:Sp}(hi:p.ins=[0]):p.come 0=p:=by
 have:=Lw.come_same p
 rwa [show p.top=0 by unfold Sp.top;rw[hi];rfl]at this
theorem lns_go {L:List UInt8}:∀ (ls:List (List Lx)) (p:Sp) (f:Nat),ls≠[]→p.pos≤L.length→p.opn=0→p.ins=[0]→LnsOk ls→L.drop p.pos=lnB ls→L.length-p.pos<f→
  ∃ q,linesF L f p= .ok q∧q.toks.map tkey=p.toks.map tkey++lnK ls
 |[],_,_,hne,_,_,_,_,_,_=>absurd rfl hne
 |[x],p,f,_,hp,ho,hi,hok,hL,hf=>by
  obtain⟨f,rfl⟩:∃ g,f=g+1:=⟨f-1,by omega⟩
  obtain⟨q,j1,j2,j3,j4,j5,j6⟩:=ln_go (r:=[]) hp ho hi (by rw[hL];exact(List.append_nil _).symm) (.inl rfl) hok
  have hne:p.pos≠L.length:=fun h=>by
   rw[h,List.drop_length]at hL
   obtain⟨y,ys,rfl⟩:=List.exists_cons_of_ne_nil hok.ne
   have h1:([]:List UInt8)=y.b++(y.bl++lxB ys):=hL
   have h2:=(List.append_eq_nil_iff.1 h1.symm).1
   exact hok.ok.1.ne h2
  have hq:q.pos=L.length:=by
   have:=congrArg List.length j4
   rw[List.length_drop]at this
   simp at this
   omega
  refine⟨q,?_,by rw[j6];simp[lnK]⟩
  show(if p.pos=L.length then _ else _)=_
  rw[if_neg hne,j1]
  show(if q.pos=L.length then _ else _)=_
  rw[if_pos hq,come0 j2]
 |x::y::r,p,f,_,hp,ho,hi,hok,hL,hf=>by
  obtain⟨f,rfl⟩:∃ g,f=g+1:=⟨f-1,by omega⟩
  obtain⟨q,j1,j2,j3,j4,j5,j6⟩:=ln_go (r:=10::lnB (y::r)) hp ho hi hL (.inr rfl) (hok.1 _)
  have hne:p.pos≠L.length:=fun h=>by
   rw[h,List.drop_length]at hL
   have:=congrArg List.length hL
   rw[show lnB (x::y::r)=lxB x++10::lnB (y::r)from rfl]at this
   simp at this
  have hql:q.pos≠L.length:=fun h=>by
   rw[h,List.drop_length]at j4
   cases j4
  have hpq:p.pos≤q.pos:=by
   have a:=congrArg List.length hL
   have b:=congrArg List.length j4
   rw[List.length_drop,show lnB (x::y::r)=lxB x++10::lnB (y::r)from rfl,List.length_append]at a
   rw[List.length_drop]at b
   omega
  obtain⟨q',k1,k2⟩:=lns_go (L:=L) (y::r) {q with pos:=q.pos+1} f (by simp) (by show q.pos+1≤_;omega) j3 j2 hok.2 (by
   show L.drop (q.pos+1)=_
   rw[←List.drop_drop,j4]
   rfl) (by show L.length-(q.pos+1)<f;omega)
  refine⟨q',?_,k2.trans ?_⟩
  ·show(if p.pos=L.length then _ else _)=_
   rw[if_neg hne,j1]
   show(if q.pos=L.length then _ else _)=_
   rw[if_neg hql]
   exact k1
  ·show q.toks.map tkey++lnK (y::r)=_
   rw[j6,List.append_assoc]
   rfl
theorem lns_all {ls:List (List Lx)}(hne:ls≠[])(h:LnsOk ls):∃ v,splitL (lnB ls)= .ok v∧v.map tkey=lnK ls:=by
 obtain⟨q,a,b⟩:=lns_go (L:=lnB ls) ls ⟨0,[],[0],0⟩ ((lnB ls).length+1) hne (Nat.zero_le _) rfl rfl h rfl (by show(lnB ls).length-0<_;omega)
 unfold splitL
 rw[a]
 exact⟨q.toks,rfl,by rw[b];rfl⟩
def mkT:List (Nat×List UInt8×Nat)→(Nat→Nat)→Nat→List Tk
 |[],_,_=>[]
 |k::K,g,i=>⟨k.1,k.2.1,k.2.2,g i⟩::mkT K g (i+1)
theorem mkT_of:∀ (v:List Tk) (i:Nat),∃ g:Nat→Nat,v=mkT (v.map tkey) g i
 |[],_=>⟨fun _=>0,rfl⟩
 |t::v,i=>by
  obtain⟨g,hg⟩:=mkT_of v (i+1)
  refine⟨fun j=>if j=i then t.pos else g j,?_⟩
  have h2:∀ (K:List (Nat×List UInt8×Nat)) (j:Nat),i<j→mkT K (fun j=>if j=i then t.pos else g j) j=mkT K g j:=by
   intro K
   induction K with
   |nil=>intro j _;rfl
   |cons k K ih=>
    intro j hj
    show(⟨k.1,k.2.1,k.2.2,if j=i then t.pos else g j⟩:Tk)::_=_
    rw[if_neg (by omega),ih (j+1) (by omega)]
    rfl
  show t::v=(⟨t.kind,t.text,t.num,if i=i then t.pos else g i⟩:Tk)::mkT (v.map tkey) _ (i+1)
  rw[if_pos rfl,h2 _ _ (Nat.lt_succ_self i),←hg]
def okX (x:Lx)(r:List UInt8):Bool:=
 if isLt (x.b.getD 0 0)=true then x.b.all isNm&&(r.isEmpty||!isNm (r.getD 0 0))&&decide (x.k=(bif isWd x.b then 5 else 1,x.b,0))
 else if isDg (x.b.getD 0 0)=true then x.b.all isDg&&decide (valD 0 x.b≤9007199254740991)&&decide (x.b.length≤1)&&(r.isEmpty||!isDg (r.getD 0 0))&&decide (x.k=(2,x.b,valD 0 x.b))
 else match x.b with
  |[c]=>isSg1 c&&!two2 (c::r)&&decide (x.k=(4,[c],0))
  |[a,b]=>two2 [a,b]&&decide (x.k=(4,[a,b],0))
  |_=>false
theorem okX_ok {x:Lx}{r:List UInt8}(h:okX x r=true):LxOk x r:=by
 obtain⟨b,k,sp⟩:=x
 unfold okX at h
 simp only at h
 have hne:∀ q:UInt8→Bool,q (b.getD 0 0)=true→q 0=false→b≠[]:=fun q h1 h2 e=>by
  rw[e]at h1
  rw[show([]:List UInt8).getD 0 0=0 from rfl,h2]at h1
  cases h1
 have hrr:∀ q:UInt8→Bool,(r.isEmpty||!q (r.getD 0 0))=true→r=[]∨q (r.getD 0 0)=false:=fun q e=>by
  rcases Bool.or_eq_true_iff.1 e with e|e
  ·exact .inl (List.isEmpty_iff.1 e)
  ·exact .inr (by simpa using e)
 split at h
 ·rename_i h1
  simp only[Bool.and_eq_true]at h
  obtain⟨⟨h2,h3⟩,h4⟩:=h
  have h4:=of_decide_eq_true h4
  subst h4
  exact lx_name (hne isLt h1 (by decide)) h1 (List.all_eq_true.1 h2) (hrr isNm h3) sp
 split at h
 ·rename_i h1
  simp only[Bool.and_eq_true]at h
  obtain⟨⟨⟨⟨h2,h3⟩,h5⟩,h6⟩,h4⟩:=h
  have h4:=of_decide_eq_true h4
  subst h4
  exact lx_int (hne isDg h1 (by decide)) (List.all_eq_true.1 h2) (of_decide_eq_true h3) (.inl (of_decide_eq_true h5)) (hrr isDg h6) sp
 split at h
 ·simp only[Bool.and_eq_true]at h
  obtain⟨⟨h2,h3⟩,h4⟩:=h
  have h4:=of_decide_eq_true h4
  subst h4
  exact lx_one h2 (by simpa using h3) sp
 ·simp only[Bool.and_eq_true]at h
  obtain⟨h2,h4⟩:=h
  have h4:=of_decide_eq_true h4
  subst h4
  exact lx_two h2 sp
 ·cases h
def okXs:List Lx→List UInt8→Bool
 |[],_=>true
 |x::xs,r=>okX x (x.bl++(lxB xs++r))&&okXs xs r
theorem okXs_ok:∀ {xs:List Lx} {r:List UInt8},okXs xs r=true→LxsOk xs r
 |[],_,_=>trivial
 |_::_,_,h=>⟨okX_ok (Bool.and_eq_true_iff.1 h).1,okXs_ok (Bool.and_eq_true_iff.1 h).2⟩
def clsB:List Lx→Nat→Bool
 |[],_=>true
 |x::xs,o=>(!isCls (x.b.getD 0 0)||decide (0<o))&&clsB xs (opF (x.b.getD 0 0) o)
theorem clsB_ok:∀ {xs:List Lx} {o:Nat},clsB xs o=true→clsOk xs o
 |[],_,_=>trivial
 |x::_,_,h=>by
  obtain⟨h1,h2⟩:=Bool.and_eq_true_iff.1 h
  refine⟨fun e=>?_,clsB_ok h2⟩
  rw[e]at h1
  exact of_decide_eq_true h1
theorem ln_look {xs:List Lx}(hne:xs≠[])(h:(okXs xs []&&clsB xs 0&&opOk xs 0&&decide (opA xs 0=0))=true):LnOk xs []:=by
 simp only[Bool.and_eq_true]at h
 exact⟨hne,okXs_ok h.1.1.1,clsB_ok h.1.1.2,h.1.2,of_decide_eq_true h.2⟩
def minL (neg:Bool):List Lx:=bif neg then[kS [45]]else[]
def setI (c:UInt8)(neg:Bool)(n:Nat):List Lx:=[(kW [c]).and,(kS [61]).and]++(minL neg++[kI n])
theorem ln_setI {c:UInt8}(hc:isLt c=true)(neg:Bool){n:Nat}(hn:n≤9007199254740991)(s:List UInt8):LnOk (setI c neg n) (10::s):=by
 have hW:=wh_int hn
 have hr:=hW.ok (10::s) (.inr (by show isNm 10=false;decide))
 have hcl:=lt_num hc
 have hid:opF c 0=0:=opF_id (by omega)
 have h2:∀ t:List UInt8,two2 (45::t)=false:=fun t=>by
  cases t with
  |nil=>rfl
  |cons d t=>
   show([[61,61],[33,61],[60,61],[47,47]]:List (List Nat)).contains [(45:UInt8).toNat,d.toNat]=false
   simp
 have hm:opA (minL neg) 0=0:=by cases neg<;>rfl
 have hpre:opA [(kW [c]).and,(kS [61]).and] 0=0:=by
  show opF 61 (opF c 0)=0
  rw[hid]
  rfl
 have hnm:LxOk (kW [c]).and (32::(lxB [(kS [61]).and]++(lxB (minL neg++[kI n])++10::s))):=lx_name (n:=[c]) (by simp) hc (by intro d hd;rw[List.mem_singleton.1 hd];unfold isNm;rw[hc];rfl) (.inr (by show isNm 32=false;decide)) true
 refine⟨by simp[setI],ok_app _ _ _ ⟨hnm,lx_one (by decide) ?_ true,trivial⟩ (ok_app _ _ _ ?_ hr),?_,?_,?_⟩
 ·show two2 (61::32::_)=false
  rfl
 ·cases neg with
  |false=>exact trivial
  |true=>exact⟨lx_one (by decide) (h2 _) false,trivial⟩
 ·refine cls_app _ _ _ (clsB_ok ?_) ?_
  ·show((!isCls c||decide (0<0))&&((!isCls 61||_)&&true))=true
   have:isCls c=false:=by unfold isCls;simp;omega
   rw[this]
   rfl
  ·rw[hpre]
   refine cls_app _ _ _ (clsB_ok (by cases neg<;>rfl)) ?_
   rw[hm]
   exact hW.cls 0
 ·unfold setI
  show(decide (0<30)&&(decide (opF c 0<30)&&opOk (minL neg++[kI n]) (opF 61 (opF c 0))))=true
  rw[hid]
  cases neg<;>rfl
 ·unfold setI
  rw[opA_app,hpre,opA_app,hm]
  exact hW.op 0
def lxX:List Lx:=[(kW [120]).and,(kS [61]).and,kS [40],(kW [97]).and,(kS [47,47]).and,kW [98],(kS [41]).and,(kS [42]).and,(kW [98]).and,(kS [43]).and,(kW [97]).and,(kS [37]).and,(kW [98]).and,(kS [61,61]).and,(kW [97]).and,(kW [97,110,100]).and,kS [40],
 (kI 0).and,(kS [60,61]).and,(kW [97]).and,(kS [37]).and,(kW [98]).and,(kW [97,110,100]).and,(kW [97]).and,(kS [37]).and,(kW [98]).and,(kS [60]).and,(kW [98]).and,(kW [111,114]).and,(kW [97]).and,(kS [37]).and,(kW [98]).and,(kS [60,61]).and,(kI 0).and,(kW [97,110,100]).and,(kW [98]).and,(kS [60]).and,(kW [97]).and,(kS [37]).and,kW [98],kS [41]]
theorem dec0:Lib.decDigits 0=[48]:=Lib.decDigits_one (by decide)
theorem lnX:LnOk lxX []:=by
 refine ln_look (by simp[lxX]) ?_
 unfold lxX kI
 rw[dec0]
 decide +kernel
def divL (na:Bool)(a:Nat)(nb:Bool)(b:Nat):List (List Lx):=[setI 97 na a,setI 98 nb b,lxX]
theorem div_ok (na:Bool){a:Nat}(ha:a≤9007199254740991)(nb:Bool){b:Nat}(hb:b≤9007199254740991):LnsOk (divL na a nb b):=
 ⟨fun s=>ln_setI (by decide) na ha s,fun s=>ln_setI (by decide) nb hb s,lnX⟩
abbrev nmX (c:UInt8):Ex:=⟨6,0,[c],[],[]⟩
abbrev biX (t:List UInt8)(a b:Ex):Ex:=⟨14,0,t,[a,b],[]⟩
def inX (neg:Bool)(n:Nat):Ex:=bif neg then⟨13,0,[],[⟨4,n,[],[],[]⟩],[]⟩else⟨4,n,[],[],[]⟩
abbrev rsX:Ex:=biX [37] (nmX 97) (nmX 98)
def fstX:Ex:=biX [61,61] (biX [43] (biX [42] (biX [47,47] (nmX 97) (nmX 98)) (nmX 98)) rsX) (nmX 97)
def sndX:Ex:=biX [111,114] (biX [97,110,100] (biX [60,61] ⟨4,0,[],[],[]⟩ rsX) (biX [60] rsX (nmX 98))) (biX [97,110,100] (biX [60,61] rsX ⟨4,0,[],[],[]⟩) (biX [60] (nmX 98) rsX))
def divX:Ex:=biX [97,110,100] fstX sndX
def stX (c:UInt8)(e:Ex):Sm:=⟨3,[c],[],e,[],[]⟩
def divS (na:Bool)(a:Nat)(nb:Bool)(b:Nat):List Sm:=[stX 97 (inX na a),stX 98 (inX nb b),stX 120 divX]
def sayS (z:Option (Except Ft (List Sm×Ps))):Option (List Sm):=match z with
 |some (.ok (l,_))=>some l
 |_=>none
theorem sayS_ok {z:Option (Except Ft (List Sm×Ps))}{l:List Sm}(h:sayS z=some l):∃ q,z=some (.ok (l,q)):=by
 unfold sayS at h
 split at h
 ·cases h;exact⟨_,rfl⟩
 ·cases h
theorem div_say (na:Bool)(a:Nat)(nb:Bool)(b n:Nat)(g:Nat→Nat):sayS (srcF (exF 40) ⟨mkT (lnK (divL na a nb b)) g 0,n,0,false,0⟩)=some (divS na a nb b):=by
 cases na<;>cases nb<;>kernel_rfl
theorem dec_len:∀ (k n:Nat),n<10 ^ (k+1)→(Lib.decDigits n).length≤k+1
 |0,n,h=>by rw[Lib.decDigits_one (by simpa using h)];exact Nat.le_refl _
 |k+1,n,h=>by
  by_cases h10:n<10
  ·rw[Lib.decDigits_one h10];simp
  ·rw[show Lib.decDigits n=Lib.decDigits (n/10)++[UInt8.ofNat (48+n%10)] by rw[Lib.decDigits,dif_neg h10]]
   have:=dec_len k (n/10) (by rw[Nat.pow_succ]at h;omega)
   simp
   omega
theorem setI_len (c:UInt8)(neg:Bool){n:Nat}(h:n<1000000):(lxB (setI c neg n)).length≤11:=by
 have:=dec_len 5 n h
 have e:lxB (setI c neg n)=c::32::61::32::((bif neg then[45]else[])++Lib.decDigits n):=by
  cases neg
  ·show c::32::61::32::(Lib.decDigits n++([]++[]))=_
   simp
  ·show c::32::61::32::45::(Lib.decDigits n++([]++[]))=_
   simp
 rw[e]
 cases neg<;>simp<;>omega
theorem lxX_len:(lxB lxX).length≤200:=by
 unfold lxX kI
 rw[dec0]
 decide +kernel
theorem div_par (na:Bool){a:Nat}(ha:a<1000000)(nb:Bool){b:Nat}(hb:b<1000000):∃ toks q,splitA (lnB (divL na a nb b))= .ok toks∧srcF (exF 40) ⟨toks,(lnB (divL na a nb b)).length,0,false,0⟩=some (.ok (divS na a nb b,q)):=by
 obtain⟨v,h1,h2⟩:=lns_all (ls:=divL na a nb b) (by simp[divL]) (div_ok na (by omega) nb (by omega))
 obtain⟨g,hg⟩:=mkT_of v 0
 rw[h2]at hg
 obtain⟨q,hq⟩:=sayS_ok (div_say na a nb b (lnB (divL na a nb b)).length g)
 refine⟨v,q,?_,by rw[hg];exact hq⟩
 unfold splitA
 rw[if_pos ?_]
 ·exact h1
 ·have l1:=setI_len 97 na ha
  have l2:=setI_len 98 nb hb
  show(lxB (setI 97 na a)++10::(lxB (setI 98 nb b)++10::lxB lxX)).length≤6000
  have l3:=lxX_len
  simp only[List.length_append,List.length_cons]
  omega
end Go.Proofs.YthfgpkdbclogpaaGreatDoor
namespace Go.Proofs.YthfgpkdbclogpaaGreatDoor
open Go.RowKit Go.Shelf
def TabE (w:World):Prop:=Lib.TabIs Tryz.prog w "internal/strconv.uint64pow10" .u64 Lib.pow10Tab
theorem TabE.of_block {w w':World}(h:TabE w)(hb:w'.heap[1]? =w.heap[1]?):TabE w':=by
 have hg:Tryz.prog.globalNamed "internal/strconv.uint64pow10" =some 1:=by kernel_rfl
 unfold TabE Lib.TabIs World.var? at *
 rw[hg]at h ⊢
 simp only[Option.bind_some]at h ⊢
 rw[hb]
 exact h
theorem TabE.lt {w:World}(h:TabE w):1<w.heap.size:=by
 have hg:Tryz.prog.globalNamed "internal/strconv.uint64pow10" =some 1:=by kernel_rfl
 unfold TabE Lib.TabIs World.var? at h
 rw[hg]at h
 simp only[Option.bind_some]at h
 rcases Nat.lt_or_ge 1 w.heap.size with h1|h1
 ·exact h1
 ·rw[Array.getElem?_eq_none h1]at h;cases h
theorem TabE.below {w w':World}{B:Nat}(h:TabE w)(hb:Below B w w')(hB:1<B):TabE w':=h.of_block (hb.block _ hB)
theorem bcE_app (a c:List UInt8):Lib.byteCells (a++c)=Lib.byteCells a++Lib.byteCells c:=by simp[Lib.byteCells]
theorem bcE_str (s:ByteArray):Lib.strCells s=Lib.byteCells s.data.toList:=by
 rw[Lib.strCells_eq]
structure Vz (B b:Nat)(u:Value)(l:List UInt8)(w:World):Prop where
 wr:VrIs B b u (Lib.byteCells l) w
 size:B≤w.heap.size
def VzP (B b:Nat)(u:Value)(l:List UInt8)(w:World)(e:Ending)(w':World):Prop:=e= .returned (.tuple #[])∧Vz B b u l w'∧Kp B b w w'
theorem VrIs.heap {B b:Nat}{u:Value}{bs:List Value}{w:World}(h:VrIs B b u bs w):∃ p v,B≤b∧w.heap[b]? =some (.cells #[p,v,u] 122 (0,0))∧w.ownsRow B 5 1 v bs.length bs:=by
 rcases h with⟨h1,v,h2,h3,_⟩|⟨h1,v,h2,h3,_⟩
 ·exact⟨_,v,h1,h2,h3⟩
 ·exact⟨_,v,h1,h2,h3⟩
theorem len_v (b:Nat)(p u:Value)(a:Option Addr)(n c:Nat)(w:World)(h:w.heap[b]? =some (.cells #[p,.slice a n c,u] 122 (0,0))):Calls Tryz.prog 156 #[.pointer (some ⟨b,0,none⟩)] w fun e w'=>e= .returned (.int .i64 n)∧w'=w:=by
 have h1:w.cell? ⟨b,1,none⟩=some (.slice a n c):=by rw[Lib.cell_of_heap h];rfl
 clear h
 go_enter Tryz.func156,Tryz.ntmps156
 go_wp2
 go_ret
 exact⟨rfl,rfl⟩
theorem put_any {B b:Nat}{u:Value}{l:List UInt8}(s:ByteArray)(w:World)(h:Vz B b u l w)(hl:l.length+s.size≤100000):
  Calls Tryz.prog 115 #[.pointer (some ⟨b,0,none⟩),.string s] w (VzP B b u (l++s.data.toList) w):=by
 have hbl:(Lib.byteCells l).length=l.length:=by simp[Lib.byteCells]
 have HW:=wsV_any B b u (Lib.byteCells l) s w h.wr (by rw[hbl];omega) h.size
 have HG:=fun W=>gup_any false 2 W
 have HSz:Hid (B≤w.heap.size):=h.size
 clear h
 go_enter Tryz.func115,Tryz.ntmps115
 go_wp2_with fail
 refine HW.mono ?_
 rintro e w1 ⟨rfl,hv,hk⟩
 have hv2:VrIs B b u (Lib.byteCells (l++s.data.toList)) w1:=by
  rw[bcE_app,←bcE_str s]
  exact .inr hv
 obtain⟨p,v,hB,hh,ho⟩:=hv2.heap
 obtain⟨ao,cp,rfl⟩:=row_shape ho
 have hlen:(Lib.byteCells (l++s.data.toList)).length=l.length+s.size:=by simp[Lib.byteCells]
 rw[hlen]at hh
 have HL:=len_v b p u ao _ cp w1 hh
 have HZ:Hid (Vz B b u (l++s.data.toList) w1∧Kp B b w w1):=⟨⟨hv2,Nat.le_trans HSz.out hk.size⟩,hk⟩
 have gt:decide ((100000:Int)<(l.length:Int)+(s.size:Int))=false:=by rw[decide_eq_false_iff_not];omega
 clear hv hk hv2 hh ho
 go_wp2_with fail
 refine HL.mono ?_
 rintro e w' ⟨rfl,rfl⟩
 go_wp2_with fail
 refine(HG _).mono ?_
 rintro e w' ⟨rfl,rfl⟩
 go_wp2
 go_end0
 exact⟨rfl,HZ.out.1,HZ.out.2⟩
theorem ta_nm_n (n:Int)(w:World):(Instr.typeAssert (nmV n) 74 172 true).run Tryz.prog w= .ok (.tuple #[.agg #[],.bool false]) w:=by
 simp[Instr.typeAssert,run_underlying Tryz.underlying172,go_sem,Result.andThen]
theorem ta_nm_tr (n:Int)(w:World):(Instr.typeAssert (nmV n) 74 104 true).run Tryz.prog w= .ok (.tuple #[.bool false,.bool false]) w:=by
 simp[Instr.typeAssert,run_underlying Tryz.underlying104,go_sem,Result.andThen]
theorem ta_tr_tx (b:Bool)(w:World):(Instr.typeAssert (trV b) 74 87 true).run Tryz.prog w= .ok (.tuple #[.string ⟨#[]⟩,.bool false]) w:=by
 simp[Instr.typeAssert,run_underlying Tryz.underlying87,go_sem,Result.andThen]
theorem ta_tx (s:ByteArray)(w:World):(Instr.typeAssert (txV s) 74 87 true).run Tryz.prog w= .ok (.tuple #[.string s,.bool true]) w:=by
 simp[Instr.typeAssert,run_underlying Tryz.underlying87,go_sem,Result.andThen]
attribute [local go_sem] ta_nm_n ta_nm_tr ta_tr_tx ta_tx ta_tr ta_tr_n ta_nm ta_nm_tx
theorem idle_any (w:World):Calls Tryz.prog 31 #[] w fun e w'=>e= .returned (.tuple #[])∧w'=w:=by
 go_enter Tryz.func31,Tryz.ntmps31
 go_wp2
 go_end0
 exact⟨rfl,rfl⟩
abbrev idV:Value:= .func (.func 31) #[] #[]
def trS (b:Bool):ByteArray:=bif b then⟨#[84,114,117,101]⟩else⟨#[70,97,108,115,101]⟩
theorem Vz.below {B b:Nat}{u:Value}{l:List UInt8}{w w':World}(h:Vz B b u l w)(hb:Below w.heap.size w w'):Vz B b u l w':=by
 refine⟨?_,Nat.le_trans h.size hb.size⟩
 have key:∀ p,VrAt B b u p (Lib.byteCells l) w→VrAt B b u p (Lib.byteCells l) w':=fun p q=>by
  obtain⟨h1,v,h2,h3,h4⟩:=q
  exact⟨h1,v,(hb.block b (Array.getElem?_eq_some_iff.1 h2).1).trans h2,rowKeepV h3 fun g hg=>hb.block g (h3.lt g hg).2,h4⟩
 rcases h.wr with q|q
 ·exact .inl (key _ q)
 ·exact .inr (key _ q)
theorem Vz.cell {B b:Nat}{u:Value}{l:List UInt8}{w:World}(h:Vz B b u l w):w.cell? ⟨b,1+1,none⟩=some u:=by
 obtain⟨p,v,_,hh,_⟩:=h.wr.heap
 rw[Lib.cell_of_heap hh]
 rfl
theorem truth_w {B b:Nat}{u:Value}(x:Bool)(w:World)(h:Vz B b u [] w):
  Calls Tryz.prog 116 #[.pointer (some ⟨b,0,none⟩),.bool x] w (VzP B b u (trS x).data.toList w):=by
 have HP:=put_any (trS x) w h (by cases x<;>decide)
 clear h
 cases x
 all_goals
  go_enter Tryz.func116,Tryz.ntmps116
  go_wp2_with fail
  refine HP.mono ?_
  rintro e w' ⟨rfl,h1,h2⟩
  go_wp2
  go_end0
  exact⟨rfl,h1,h2⟩
theorem value_tr {b:Nat}(x:Bool)(w:World)(h:Vz b b idV [] w):
  Calls Tryz.prog 82 #[.pointer (some ⟨b,0,none⟩),trV x] w fun e w'=>e= .returned (.tuple #[])∧Vz b b idV (trS x).data.toList w'∧Below b w w':=by
 have hsz:=h.size
 have HB:Hid (Below b w (w.alloc (.cells #[.pointer (some ⟨b,0,none⟩)] 170))):=(Below.refl _ w).alloc hsz _
 have h2:=h.below (w':=w.alloc (.cells #[.pointer (some ⟨b,0,none⟩)] 170)) ((Below.refl _ w).alloc (Nat.le_refl _) _)
 have hc:(w.alloc (.cells #[.pointer (some ⟨b,0,none⟩)] 170)).cell? ⟨b,2,none⟩=some idV:=h2.cell
 have HT:=truth_w x _ h2
 have HI:=idle_any (w.alloc (.cells #[.pointer (some ⟨b,0,none⟩)] 170))
 have HE:∀ args W,(callFunc 31 args).run Tryz.prog W= .ok (.enter 31 args) W:=enters_of Tryz.func31 (by kernel_rfl) rfl
 clear h h2
 go_enter Tryz.func82,Tryz.ntmps82
 go_wp2_with fail
 refine HI.mono ?_
 rintro e w' ⟨rfl,rfl⟩
 go_wp2_with fail
 refine HT.mono ?_
 rintro e w' ⟨rfl,h1,h2⟩
 go_wp2
 go_end0
 exact⟨rfl,h1,HB.out.trans h2.bel⟩
theorem itoa_up (W:World)(k:Nat)(os:Array Obj):Below W.heap.size W (Go.Sort.grow (W.drewN k) os):=by
 refine⟨rfl,rfl,rfl,?_,?_⟩
 ·simp[Go.Sort.grow]
 ·intro g hg
  rw[Go.Sort.heap_grow_old _ _ (by simpa using hg)]
  rfl
theorem itoa_len (n:Int)(h1:-9007199254740991≤n)(h2:n≤9007199254740991):(Lib.itoa n).length≤17:=by
 unfold Lib.itoa
 split
 ·have:=dec_len 15 n.natAbs (by omega)
  simp
  omega
 ·have:=dec_len 15 n.toNat (by omega)
  omega
set_option linter.unusedSimpArgs false in
theorem value_nm {b:Nat}(n:Int)(h1:-9007199254740991≤n)(h2:n≤9007199254740991)(w:World)(h:Vz b b idV [] w)(hT:TabE w)(hg:1<b):
  Calls Tryz.prog 82 #[.pointer (some ⟨b,0,none⟩),nmV n] w fun e w'=>e= .returned (.tuple #[])∧Vz b b idV (Lib.itoa n) w'∧Below b w w':=by
 have hsz:=h.size
 obtain⟨W1,e1⟩:∃ W1,W1=w.alloc (.cells #[.pointer (some ⟨b,0,none⟩)] 170):=⟨_,rfl⟩
 have hb1:Below w.heap.size w W1:=by rw[e1];exact(Below.refl _ w).alloc (Nat.le_refl _) _
 have hbx:W1.heap[w.heap.size]? =some (.cells #[.pointer (some ⟨b,0,none⟩)] 170 (0,0)):=by rw[e1];exact heap_alloc_new w _
 have hw:=h.below hb1
 have hc:W1.cell? ⟨b,2,none⟩=some idV:=hw.cell
 have hbl:b<w.heap.size:=by
  obtain⟨p,v,_,hh,_⟩:=h.wr.heap
  exact(Array.getElem?_eq_some_iff.1 hh).1
 have HIt:Calls Tryz.prog 117 #[.int .i64 n] W1.drew fun e w'=>e= .returned (.string (mkB (Lib.itoa n)))∧Below W1.drew.heap.size W1.drew w':=(Any.strconv_Itoa laysI n (by omega) (by omega) W1.drew ((hT.below hb1 (by omega):TabE W1).of_block rfl)).mono fun e w' q=>⟨q.1,by
  obtain⟨_,k,os,rfl⟩:=q
  exact itoa_up _ _ _⟩
 have HPt:Hid (∀ V,Below W1.heap.size W1 V→Calls Tryz.prog 115 #[.pointer (some ⟨b,0,none⟩),.string (mkB (Lib.itoa n))] V (VzP b b idV ([]++(mkB (Lib.itoa n)).data.toList) V)):=fun V hV=>put_any _ V (hw.below hV) (by rw[mk_size];have:=itoa_len n h1 h2;show 0+_≤_;omega)
 have HI:=idle_any W1
 have HE:∀ args W,(callFunc 31 args).run Tryz.prog W= .ok (.enter 31 args) W:=enters_of Tryz.func31 (by kernel_rfl) rfl
 have c0:W1.cell? ⟨w.heap.size,0,none⟩=some (.pointer (some ⟨b,0,none⟩)):=by rw[Lib.cell_of_heap hbx];rfl
 have HQ:Hid (W1.heap[w.heap.size]? =some (.cells #[.pointer (some ⟨b,0,none⟩)] 170 (0,0))∧Below b w W1):=⟨hbx,hb1.mono hsz⟩
 clear h hw hT hb1 hbx
 rw[e1]at HI hc c0
 go_enter Tryz.func82,Tryz.ntmps82
 go_wp2_with fail
 refine HI.mono ?_
 rintro e w' ⟨rfl,rfl⟩
 rw[←e1]at *
 go_wp2_with fail
 refine wp_region_held_drew (S:=fun V=>V.cell? ⟨w.heap.size,0,none⟩=some (.pointer (some ⟨b,0,none⟩))) (by kernel_rfl) (show W1.drew.cell? ⟨w.heap.size,0,none⟩=_ from c0) (fun hHeld=>?_)
 refine wpAnyH_take (i:=0) (v:= .pointer (some ⟨b,0,none⟩)) rfl (by kernel_rfl) (by kernel_rfl) (by kernel_rfl) (fun _ _ _ h=>h) (Or.inl ⟨by rfl,?_⟩) (by assumption) ?_
 ·intro V hSV
  go_simp
  try with_reducible rfl
 try simp only[Act.put,List.setIfInBounds_toArray,List.set_cons_zero,List.set_cons_succ]
 refine wpAnyH_take (i:=1) (v:= .int .i64 n) rfl (by kernel_rfl) (by kernel_rfl) (by kernel_rfl) (fun _ _ _ h=>h) (Or.inl ⟨by rfl,?_⟩) (by assumption) ?_
 ·intro V hSV
  go_simp
  try with_reducible rfl
 try simp only[Act.put,List.setIfInBounds_toArray,List.set_cons_zero,List.set_cons_succ]
 refine wpAnyH_ready (rs:=[2]) (by kernel_rfl) (by simp) (AllReadyH.cons rfl (fun K hK=>?_) AllReadyH.nil)
 go_simp
 refine HIt.mono ?_
 rintro e V ⟨rfl,hbV⟩
 have hbV1:Below W1.heap.size W1 V:=⟨hbV.os,hbV.tape,hbV.output,hbV.size,hbV.block⟩
 have hxV:=(hbV1.block _ (Array.getElem?_eq_some_iff.1 HQ.out.1).1).trans HQ.out.1
 have hSV:V.cell? ⟨w.heap.size,0,none⟩=some (.pointer (some ⟨b,0,none⟩)):=by rw[Lib.cell_of_heap hxV];rfl
 have HP1:=HPt.out V hbV1
 have HK1:Hid (Below b w V):=HQ.out.2.trans (hbV1.mono (by have:=HQ.out.2.size;omega))
 refine hK.out _ _ hSV (fun hHeld=>?_)
 clear hK K hbV hbV1
 try simp only[Act.put,List.setIfInBounds_toArray,List.set_cons_zero,List.set_cons_succ]
 refine wpAnyH_ready (rs:=[3]) (by kernel_rfl) (by simp) (AllReadyH.cons rfl (fun K hK=>?_) AllReadyH.nil)
 go_simp
 refine HP1.mono ?_
 rintro e V2 ⟨rfl,hz,hk⟩
 have hx2:=hk.2 _ _ hxV (fun e=>by have:=Option.some.inj e;omega) (fun c fz e=>by cases e)
 have hS2:V2.cell? ⟨w.heap.size,0,none⟩=some (.pointer (some ⟨b,0,none⟩)):=by rw[Lib.cell_of_heap hx2];rfl
 have HZ:Hid (Vz b b idV (Lib.itoa n) V2∧Below b w V2):=⟨by have:=hz;rw[mk_data]at this;exact this,HK1.out.trans hk.bel⟩
 refine hK.out _ _ hS2 (fun hHeld=>?_)
 clear hK K hz hk hx2 hxV
 refine wpAnyH_done (by kernel_rfl) ?_ _
 try simp only[Act.put,List.setIfInBounds_toArray,List.set_cons_zero,List.set_cons_succ]
 go_wp2
 go_end0
 exact⟨rfl,HZ.out.1,HZ.out.2⟩
def WrI (v:Value)(s:ByteArray):Prop:=∀ w,TabE w→Calls Tryz.prog 30 #[v,idV] w fun e w'=>e= .returned (.string s)∧Below w.heap.size w w'
abbrev vzO:Obj:= .cells #[.pointer none,.slice none 0 0,idV] 122
theorem st_func {P:Program}{w:World}{a:Addr}{m:Mode}(f:Fn)(x c:Array Value):(store a (.func f x c) m).run P w=stored P w a (.func f x c) m:=run_store P w a _ m rfl
attribute [local go_sem] st_func
theorem vz_new (w:World):Vz w.heap.size w.heap.size idV [] (w.alloc vzO):=
 ⟨.inl ⟨Nat.le_refl _,.slice none 0 0,heap_alloc_new w _,World.ownsRow_nil _ _ _ _,by simp[Value.ownBlock]⟩,by rw[World.size_alloc];exact Nat.le_succ _⟩
theorem written_tr (x:Bool):WrI (trV x) (trS x):=by
 intro w hT
 have HV:=value_tr (b:=w.heap.size) x _ (vz_new w)
 have HB:Hid (Below w.heap.size w (w.alloc vzO)):=(Below.refl _ w).alloc (Nat.le_refl _) _
 have HS:Hid (∀ W,Vz w.heap.size w.heap.size idV (trS x).data.toList W→Calls Tryz.prog 83 #[.pointer (some ⟨w.heap.size,0,none⟩)] W fun e w'=>e= .returned (.string (trS x))∧Below w.heap.size W w'):=fun W hW=>(bsV_any _ _ _ _ W hW.wr (by cases x<;>decide)).mono fun e w' q=>⟨q.1,q.2⟩
 clear hT
 go_enter Tryz.func30,Tryz.ntmps30
 go_wp2_with fail
 refine HV.mono ?_
 rintro e w2 ⟨rfl,h1,h2⟩
 have HC:=HS.out _ h1
 have HK:Hid (Below w.heap.size w w2):=HB.out.trans h2
 clear h1 h2
 go_wp2_with fail
 refine HC.mono ?_
 rintro e w3 ⟨rfl,h3⟩
 go_wp2
 go_ret
 exact⟨rfl,HK.out.trans h3⟩
theorem written_nm (n:Int)(h1:-9007199254740991≤n)(h2:n≤9007199254740991):WrI (nmV n) (mkB (Lib.itoa n)):=by
 intro w hT
 have hg:=hT.lt
 have hne:Lib.itoa n≠[]:=by
  unfold Lib.itoa
  split
  ·simp
  ·exact(dec_facts (n.toNat+1) n.toNat (Nat.lt_succ_self _)).1
 have hb0:Below w.heap.size w (w.alloc vzO):=(Below.refl _ w).alloc (Nat.le_refl _) _
 have HV:=value_nm (b:=w.heap.size) n h1 h2 _ (vz_new w) (hT.below hb0 hg) hg
 have HB:Hid (Below w.heap.size w (w.alloc vzO)):=hb0
 have HS:Hid (∀ W,Vz w.heap.size w.heap.size idV (Lib.itoa n) W→Calls Tryz.prog 83 #[.pointer (some ⟨w.heap.size,0,none⟩)] W fun e w'=>e= .returned (.string (mkB (Lib.itoa n)))∧Below w.heap.size W w'):=fun W hW=>bsV_any _ _ _ _ W hW.wr hne
 clear hT hg hb0 hne
 go_enter Tryz.func30,Tryz.ntmps30
 go_wp2_with fail
 refine HV.mono ?_
 rintro e w2 ⟨rfl,h1,h2⟩
 have HC:=HS.out _ h1
 have HK:Hid (Below w.heap.size w w2):=HB.out.trans h2
 clear h1 h2
 go_wp2_with fail
 refine HC.mono ?_
 rintro e w3 ⟨rfl,h3⟩
 go_wp2
 go_ret
 exact⟨rfl,HK.out.trans h3⟩
theorem written_tx (s:ByteArray):WrI (txV s) s:=by
 intro w hT
 have HI:=idle_any w
 have HE:∀ args W,(callFunc 31 args).run Tryz.prog W= .ok (.enter 31 args) W:=enters_of Tryz.func31 (by kernel_rfl) rfl
 clear hT
 go_enter Tryz.func30,Tryz.ntmps30
 go_wp2_with fail
 refine HI.mono ?_
 rintro e w' ⟨rfl,rfl⟩
 go_wp2
 go_ret
 exact⟨rfl,Below.refl _ _⟩
end Go.Proofs.YthfgpkdbclogpaaGreatDoor
namespace Go.Proofs.YthfgpkdbclogpaaGreatDoor
open Go.RowKit
abbrev RAt (w:World)(r:Nat)(c:Array Value):Prop:=w.heap[r]? =some (.cells c 52 (0,0))
def Fr (B r:Nat)(n:Int)(w w':World):Prop:=Below B (w.setCell ⟨r,3,none⟩ (.int .i64 n)) w'
theorem Fr.start (B r:Nat)(n:Int)(w:World):Fr B r n w (w.setCell ⟨r,3,none⟩ (.int .i64 n)):=Below.refl _ _
theorem Fr.below {B r:Nat}{n:Int}{w w1 w2:World}(h:Fr B r n w w1)(k:Below B w1 w2):Fr B r n w w2:=Below.trans h k
theorem Fr.at {B r:Nat}{n:Int}{w w':World}{c:Array Value}(h:Fr B r n w w')(hr:r<B)(hc:RAt w r c):RAt w' r (c.setIfInBounds 3 (.int .i64 n)):=by
 rw[RAt,h.block r hr]
 exact heap_setCell_same w r 3 c 52 (.int .i64 n) hc
theorem Fr.trans {B r:Nat}{n m:Int}{w w1 w2:World}{c:Array Value}(hr:r<B)(hc:RAt w r c)(h:Fr B r n w w1)(k:Fr B r m w1 w2):Fr B r m w w2:=by
 refine⟨k.os.trans h.os,k.tape.trans h.tape,k.output.trans h.output,?_,fun i hi=>?_⟩
 ·have h1:=h.size
  have h2:=k.size
  simp[World.setCell]at h1 h2 ⊢
  omega
 ·by_cases he:i=r
  ·subst he
   rw[k.block i hi]
   have h1:=h.at hi hc
   rw[heap_setCell_same w1 i 3 _ 52 (.int .i64 m) h1,heap_setCell_same w i 3 _ 52 (.int .i64 m) hc]
   simp
  ·rw[k.block i hi,Below.heap_setCell _ _ _ _ he,h.block i hi,Below.heap_setCell _ _ _ _ he,Below.heap_setCell _ _ _ _ he]
theorem Fr.other {B r:Nat}{n:Int}{w w':World}(h:Fr B r n w w'){p:Addr}(hp:p.block<B)(hne:p.block≠r):w'.cell? p=w.cell? p:=by
 refine World.cell?_of_block (w:=w) ?_
 rw[h.block p.block hp,Below.heap_setCell _ _ _ _ hne]
end Go.Proofs.YthfgpkdbclogpaaGreatDoor
