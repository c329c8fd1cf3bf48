/- 14. -/
import Derived.Lib.ItoaNum
import Derived.Test.YtcaeeackccgclaaGreatDoorTx13
set_option maxHeartbeats 40000000
set_option maxRecDepth 100000
namespace Go.Proofs.YtcaeeackccgclaaGreatDoor.Lw
open Go.RowKit Go.Shelf
def lvl (t:Tk):Int:=if t.kind=7 then 1 else if t.kind=8 then -1 else 0
def dep:List Tk→Int
 |[]=>0
 |t::r=>lvl t+dep r
theorem dep_snoc:∀ (l:List Tk) (t:Tk),dep (l++[t])=dep l+lvl t
 |[],t=>by show lvl t+0=0+lvl t;omega
 |a::r,t=>by show lvl a+dep (r++[t])=lvl a+dep r+lvl t;rw[dep_snoc r t];omega
def lastP (l:List Tk):Nat:=match l.getLast? with|some t=>t.pos|none=>0
def lastK (l:List Tk):Nat:=match l.getLast? with|some t=>t.kind|none=>6
theorem lastP_snoc (l:List Tk)(t:Tk):lastP (l++[t])=t.pos:=by unfold lastP;simp
theorem lastK_snoc (l:List Tk)(t:Tk):lastK (l++[t])=t.kind:=by unfold lastK;simp
structure Nxt (n:Nat)(l:List Tk)(t:Tk):Prop where
 rise:lastP l≤t.pos
 most:t.pos≤n
 d0:0≤dep l+lvl t
 d30:dep l+lvl t≤30
 behind:t.kind=7∨t.kind=8→lastK l=6∨lastK l=8
def AllNxt (n:Nat)(l:List Tk):Prop:=∀ (i:Nat) (h:i<l.length),Nxt n (l.take i) l[i]
theorem AllNxt.snoc {n:Nat}{l:List Tk}(h:AllNxt n l){t:Tk}(ht:Nxt n l t):AllNxt n (l++[t]):=by
 intro i hi
 by_cases hl:i<l.length
 ·have e1:(l++[t]).take i=l.take i:=by rw[List.take_append_of_le_length (by omega)]
  have e2:(l++[t])[i]=l[i]:=List.getElem_append_left hl
  rw[e1,e2];exact h i hl
 ·have hi2:i=l.length:=by simp at hi;omega
  subst hi2
  have e1:(l++[t]).take l.length=l:=by simp
  have e2:(l++[t])[l.length]=t:=by simp
  rw[e1,e2];exact ht
def Ps (l:List Nat):Prop:=∃ ys:List Nat,l=ys++[0]∧∀ y∈ys,0<y
theorem Ps.pop {l:List Nat}(h:Ps l)(h2:2≤l.length):Ps (l.drop 1):=by
 obtain⟨ys,rfl,hy⟩:=h
 cases ys with
 |nil=>simp at h2
 |cons a r=>exact⟨r,rfl,fun y hm=>hy y (List.mem_cons_of_mem _ hm)⟩
theorem Ps.push {l:List Nat}(h:Ps l){i:Nat}(hi:0<i):Ps (i::l):=by
 obtain⟨ys,rfl,hy⟩:=h
 refine⟨i::ys,rfl,fun y hm=>?_⟩
 rcases List.mem_cons.1 hm with e|e
 ·rw[e];exact hi
 ·exact hy y e
structure Lv (n:Nat)(p:Sp):Prop where
 all:AllNxt n p.toks
 deep:dep p.toks+1=(p.ins.length:Int)
 last:lastP p.toks≤p.pos
 ps:Ps p.ins
theorem Lv.snoc {n:Nat}{p q:Sp}(h:Lv n p)(t:Tk)(hq:q.toks=p.toks++[t])(ht:Nxt n p.toks t)(hd:dep p.toks+lvl t+1=(q.ins.length:Int))(hp:t.pos≤q.pos)(hps:Ps q.ins):Lv n q:=
 ⟨by rw[hq];exact h.all.snoc ht,by rw[hq,dep_snoc];exact hd,by rw[hq,lastP_snoc];exact hp,hps⟩
theorem outF_zero:∀ (f:Nat) (p:Sp),Ps p.ins→p.ins.length≤f+1→(outF 0 f p).ins.length=1:=by
 intro f
 induction f with
 |zero=>
  intro p h hl
  obtain⟨ys,e,hy⟩:=h
  show p.ins.length=1
  rw[e]at hl ⊢
  simp at hl ⊢
  exact hl
 |succ f ih=>
  intro p h hl
  by_cases hi:0<p.top
  ·rw[outF_step 0 f p hi]
   have h2:2≤p.ins.length:=by
    obtain⟨ys,e,hy⟩:=h
    cases ys with
    |nil=>unfold Sp.top at hi;rw[e]at hi;simp at hi
    |cons a r=>rw[e];simp
   refine ih _ (h.pop h2) ?_
   show(p.ins.drop 1).length≤_
   rw[List.length_drop];omega
  ·rw[outF_stop 0 _ p hi]
   obtain⟨ys,e,hy⟩:=h
   cases ys with
   |nil=>rw[e];rfl
   |cons a r=>
    exfalso;apply hi
    unfold Sp.top;rw[e]
    exact hy a List.mem_cons_self
theorem come_zero {p:Sp}(h:Ps p.ins):(p.come 0).ins.length=1:=by
 show(outF 0 _ (if p.top<0 then _ else p)).ins.length=1
 rw[if_neg (Nat.not_lt_zero _)]
 exact outF_zero _ p h (by omega)
theorem come_same (p:Sp):p.come p.top=p:=by
 show outF p.top _ (if p.top<p.top then _ else p)=p
 rw[if_neg (Nat.lt_irrefl _)]
 exact outF_stop _ _ _ (Nat.lt_irrefl _)
theorem outF_lv (n i:Nat):∀ (f:Nat) (p:Sp),InOk p→p.ins.length≤31→p.pos≤n→(lastK p.toks=6∨lastK p.toks=8)→Lv n p→Lv n (outF i f p)∧p.toks.length≤(outF i f p).toks.length:=by
 intro f
 induction f with
 |zero=>intro p _ _ _ _ h;exact⟨h,Nat.le_refl _⟩
 |succ f ih=>
  intro p hk h31 hp hl h
  by_cases hi:i<p.top
  ·have h2:=hk.two i hi
   rw[outF_step i f p hi]
   have e1:(({p with ins:=p.ins.drop 1}:Sp).add 8).ins.length=p.ins.length-1:=List.length_drop
   have e2:(({p with ins:=p.ins.drop 1}:Sp).add 8).toks.length=p.toks.length+1:=by
    show(p.toks++[_]).length=_
    simp
   have hd:=h.deep
   have a:Lv n (({p with ins:=p.ins.drop 1}:Sp).add 8):=by
    refine h.snoc ⟨8,[],0,p.pos⟩ rfl ⟨h.last,hp,?_,?_,fun _=>hl⟩ ?_ (Nat.le_refl _) (h.ps.pop h2)
    ·show 0≤dep p.toks+(-1);omega
    ·show dep p.toks+(-1)≤30;omega
    ·show dep p.toks+(-1)+1=_;rw[e1];omega
   obtain⟨b,c⟩:=ih (({p with ins:=p.ins.drop 1}:Sp).add 8) (hk.pop h2 _ rfl) (by omega) hp (.inr (by show lastK (p.toks++[_])=8;rw[lastK_snoc])) a
   exact⟨b,by omega⟩
  ·rw[outF_stop i _ p hi]
   exact⟨h,Nat.le_refl _⟩
theorem come_lv {n:Nat}{p:Sp}(h:Lv n p)(hk:InOk p)(h31:p.ins.length≤31)(hp:p.pos≤n)(i:Nat)(h30:p.top<i→p.ins.length≤30)(hi:i=p.top∨lastK p.toks=6):Lv n (p.come i)∧p.toks.length≤(p.come i).toks.length:=by
 rcases hi with rfl|hl
 ·rw[come_same];exact⟨h,Nat.le_refl _⟩
 ·show Lv n (outF i _ _)∧_≤(outF i _ _).toks.length
  by_cases ht:p.top<i
  ·rw[if_pos ht]
   rw[outF_stop i _ _ (by show ¬i<i;exact Nat.lt_irrefl _)]
   have hd:=h.deep
   have:=h30 ht
   refine⟨h.snoc ⟨7,[],0,p.pos⟩ rfl ⟨h.last,hp,?_,?_,fun _=>.inl hl⟩ ?_ (Nat.le_refl _) (h.ps.push (by omega)),?_⟩
   ·show 0≤dep p.toks+1;omega
   ·show dep p.toks+1≤30;omega
   ·show dep p.toks+1+1=((i::p.ins).length:Int);simp;omega
   ·show _≤(p.toks++[_]).length;simp
  ·rw[if_neg ht]
   exact outF_lv n i _ p hk h31 hp (.inl hl) h
theorem tok1_lv {L:List UInt8}{p q:Sp}(h:tok1 L p= .ok q)(hs:Lv L.length p)(hk:p.ins.length≤31)(hk1:1≤p.ins.length)(hp:p.pos<L.length)(hpq:p.pos<q.pos):Lv L.length q∧q.ins=p.ins∧q.toks.length=p.toks.length+1:=by
 have hd:=hs.deep
 have key:∀ (k:Nat) (t:List UInt8) (m:Nat),1≤k→k≤5→q.toks=p.toks++[⟨k,t,m,p.pos⟩]→q.ins=p.ins→Lv L.length q∧q.ins=p.ins∧q.toks.length=p.toks.length+1:=by
  intro k t m h1 h5 e ei
  have hl:lvl ⟨k,t,m,p.pos⟩=0:=by
   show(if k=7 then(1:Int)else if k=8 then -1 else 0)=0
   rw[if_neg (by omega),if_neg (by omega)]
  refine⟨hs.snoc _ e ⟨hs.last,Nat.le_of_lt hp,?_,?_,fun hk=>?_⟩ ?_ (Nat.le_of_lt hpq) (by rw[ei];exact hs.ps),ei,by rw[e];simp⟩
  ·rw[hl];omega
  ·rw[hl];omega
  ·exfalso;simp only at hk;omega
  ·rw[hl,ei];omega
 unfold tok1 at h
 simp only[at_drop]at h
 split at h
 ·split at h
  ·cases h
  ·cases h;exact key 3 _ _ (by omega) (by omega) rfl rfl
 split at h
 ·cases h;exact key 2 _ _ (by omega) (by omega) rfl rfl
 split at h
 ·cases h
  refine key _ _ _ ?_ ?_ rfl rfl
  ·cases isWd ((L.drop p.pos).take (rch isNm (L.drop p.pos)))<;>decide
  ·cases isWd ((L.drop p.pos).take (rch isNm (L.drop p.pos)))<;>decide
 ·cases h;exact key 4 _ _ (by omega) (by omega) rfl rfl
theorem txt_err:∀ (f:Nat) (r said:List UInt8) (x y:Nat),txt f r said x= .error y→y≤x+r.length:=by
 intro f
 induction f with
 |zero=>intro r said x y h;cases h;omega
 |succ f ih=>
  intro r said x y h
  unfold txt at h
  by_cases h0:r=[]
  ·simp only[h0,if_true]at h;cases h;omega
  simp only[h0,if_false]at h
  have hl:0<r.length:=List.length_pos_iff.2 h0
  split at h
  ·cases h
  split at h
  ·split at h
   ·cases h;omega
   rename_i h1
   have hl2:0<(r.drop 1).length:=List.length_pos_iff.2 h1
   rw[List.length_drop]at hl2
   split at h
   ·have:=ih _ _ _ _ h;rw[List.length_drop]at this;omega
   split at h
   ·have:=ih _ _ _ _ h;rw[List.length_drop]at this;omega
   split at h
   ·have:=ih _ _ _ _ h;rw[List.length_drop]at this;omega
   ·cases h;omega
  split at h
  ·cases h;omega
  ·have h1:=rch_le isPl r
   have:=ih _ _ _ _ h
   rw[List.length_drop]at this
   omega
theorem tok1_err {L:List UInt8}{p:Sp}{k z:Nat}(h:tok1 L p= .error (k,z))(hp:p.pos<L.length):z≤L.length:=by
 unfold tok1 at h
 simp only[at_drop]at h
 split at h
 ·split at h
  ·rename_i y hy
   have:=txt_err _ _ _ _ _ hy
   rw[List.length_drop,List.length_drop]at this
   cases h;omega
  ·cases h
 split at h
 ·cases h
 split at h
 ·cases h
 ·cases h
theorem toksF_lv (L:List UInt8):∀ (f i:Nat) (p:Sp),SpOk L p 1→Lv L.length p→(i=p.top∨lastK p.toks=6)→
  (∀ q,toksF L f i p= .ok q→Lv L.length q∧(q.toks=p.toks∨p.toks.length<q.toks.length))∧(∀ k z,toksF L f i p= .error (k,z)→z≤L.length):=by
 intro f
 induction f with
 |zero=>intro i p hk _ _;exact⟨fun q h=>(by cases h),fun k z h=>by cases h;exact hk.pos⟩
 |succ f ih=>
  intro i p hk hs hi
  unfold toksF
  split
  ·exact⟨fun q h=>by cases h;exact⟨hs,.inl rfl⟩,fun k z h=>by cases h⟩
  rename_i he
  have hp:p.pos<L.length:=by
   have:=hk.pos
   rcases Nat.lt_or_ge p.pos L.length with h1|h1
   ·exact h1
   ·exfalso;apply he;unfold endL
    rw[show decide (p.pos=L.length)=true from by simp;omega];rfl
  split
  ·exact⟨fun q h=>(by cases h),fun k z h=>by cases h;exact hk.pos⟩
  rename_i hr
  have hr0:refu L p i=0:=by
   rcases Nat.eq_zero_or_pos (refu L p i)with e|e
   ·exact e
   ·exact absurd (by omega) hr
  obtain⟨r1,r2,r3,r4,r5⟩:=refu_zero hr0
  obtain⟨c1,c2,c3,c4,c5⟩:=come_ok hk.ins i
  obtain⟨v1,v2⟩:=come_lv hs hk.ins hk.i31 hk.pos i r5 hi
  have hi31:(p.come i).ins.length≤31:=by
   by_cases htp:p.top<i
   ·rw[if_pos htp]at c4;have:=r5 htp;omega
   ·rw[if_neg htp]at c4;have:=hk.i31;omega
  split
  ·rename_i x hx
   refine⟨fun q h=>(by cases h),fun k z h=>?_⟩
   cases h
   exact tok1_err hx (by rw[c1];exact hp)
  rename_i t ht
  obtain⟨a,b⟩:=turn_ok hk hp hr0 ht
  obtain⟨t1,t2,t3,t4,t5⟩:=tok1_ok ht (by rw[c1];exact hp) (by rw[c1];exact r1) (by rw[c1,c2];intro ho;have:=r4 ho;have:=hk.o30;omega) (by rw[c2];exact hk.o30)
  obtain⟨g1,g2,g3⟩:=tok1_lv ht v1 hi31 (List.length_pos_iff.2 c3.ne) (by rw[c1];exact hp) t1
  have g4:Lv L.length (t.skip L):=⟨g1.all,g1.deep,Nat.le_trans g1.last (skip_ok (L:=L) t2).1,g1.ps⟩
  obtain⟨h1,h2⟩:=ih (t.skip L).top (t.skip L) a g4 (.inl rfl)
  refine⟨fun q hq=>?_,h2⟩
  obtain⟨x,y⟩:=h1 q hq
  refine⟨x,.inr ?_⟩
  rcases y with y|y
  ·rw[y];show _<t.toks.length;omega
  ·have:t.toks.length<q.toks.length:=y;omega
theorem lineF_lv {L:List UInt8}{p:Sp}(hk:SpOk L p 1)(hs:Lv L.length p)(hl:lastK p.toks=6):
  (∀ q,lineF L p= .ok q→Lv L.length q∧lastK q.toks=6)∧(∀ k z,lineF L p= .error (k,z)→z≤L.length):=by
 have hsk:=skip_ok (L:=L) hk.pos
 have hk1:SpOk L (p.skip L) 1:=⟨hsk.2,hk.ins.of rfl,hk.i31,hk.o30,by show p.toks.length+p.ins.length≤4*(p.skip L).pos+1;have:=hk.cnt;omega⟩
 have hs1:Lv L.length (p.skip L):=⟨hs.all,hs.deep,Nat.le_trans hs.last hsk.1,hs.ps⟩
 obtain⟨A,B⟩:=toksF_lv L (L.length+1) (skp p.opn L.length (L.drop p.pos)) (p.skip L) hk1 hs1 (.inr hl)
 unfold lineF
 split
 ·rename_i x hx
  refine⟨fun q h=>(by cases h),fun k z h=>?_⟩
  cases h;exact B _ _ hx
 rename_i r hr
 obtain⟨a1,a2⟩:=A r hr
 have b:=(toksF_ok L _ _ _ _ hk1 hr).1
 split
 ·exact⟨fun q h=>(by cases h),fun k z h=>by cases h;exact b.pos⟩
 split
 ·refine⟨fun q h=>?_,fun k z h=>by cases h⟩
  cases h
  have hd:=a1.deep
  have h31:=b.i31
  have hne:=List.length_pos_iff.2 b.ins.ne
  have hl0:lvl ⟨6,[],0,r.pos⟩=0:=rfl
  refine⟨a1.snoc ⟨6,[],0,r.pos⟩ rfl ⟨a1.last,b.pos,?_,?_,fun hk=>?_⟩ ?_ (Nat.le_refl _) a1.ps,by show lastK (r.toks++[_])=6;rw[lastK_snoc]⟩
  ·rw[hl0];omega
  ·rw[hl0];omega
  ·exfalso;simp only at hk;omega
  ·rw[hl0];show dep r.toks+0+1=_;show _=(r.ins.length:Int);omega
 ·rename_i hn
  refine⟨fun q h=>?_,fun k z h=>by cases h⟩
  cases h
  rcases a2 with e|e
  ·exact⟨a1,by rw[e];exact hl⟩
  ·exact absurd e hn
theorem linesF_lv (L:List UInt8):∀ (f:Nat) (p:Sp),SpOk L p 1→Lv L.length p→lastK p.toks=6→
  (∀ q,linesF L f p= .ok q→Lv L.length q∧dep q.toks=0)∧(∀ k z,linesF L f p= .error (k,z)→z≤L.length):=by
 have fin:∀ p:Sp,InOk p→p.ins.length≤31→p.pos≤L.length→Lv L.length p→lastK p.toks=6→Lv L.length (p.come 0)∧dep (p.come 0).toks=0:=by
  intro p h1 h2 h3 h4 h5
  have a:=(come_lv h4 h1 h2 h3 0 (fun h=>by omega) (.inr h5)).1
  refine⟨a,?_⟩
  have hd:=a.deep
  have:(p.come 0).ins.length=1:=come_zero h4.ps
  omega
 intro f
 induction f with
 |zero=>intro p hk _ _;exact⟨fun q h=>(by cases h),fun k z h=>by cases h;exact hk.pos⟩
 |succ f ih=>
  intro p hk hs hl
  obtain⟨A,B⟩:=lineF_lv hk hs hl
  unfold linesF
  split
  ·refine⟨fun q h=>?_,fun k z h=>by cases h⟩
   cases h;exact fin p hk.ins hk.i31 hk.pos hs hl
  split
  ·rename_i x hx
   refine⟨fun q h=>(by cases h),fun k z h=>?_⟩
   cases h;exact B _ _ hx
  rename_i r hr
  obtain⟨a1,a2⟩:=A r hr
  obtain⟨b,c⟩:=lineF_ok hk hr
  split
  ·refine⟨fun q h=>?_,fun k z h=>by cases h⟩
   cases h;exact fin r b.ins b.i31 b.pos a1 a2
  ·rename_i hne
   have:=b.pos
   exact ih {r with pos:=r.pos+1} ⟨by show r.pos+1≤_;omega,b.ins.of rfl,b.i31,b.o30,by show r.toks.length+r.ins.length≤4*(r.pos+1)+1;have:=b.cnt;omega⟩ ⟨a1.all,a1.deep,by have:=a1.last;show lastP r.toks≤r.pos+1;omega,a1.ps⟩ a2
theorem splitL_lv (L:List UInt8):(∀ l,splitL L= .ok l→AllNxt L.length l∧dep l=0)∧(∀ k z,splitL L= .error (k,z)→z≤L.length):=by
 obtain⟨A,B⟩:=linesF_lv L (L.length+1) ⟨0,[],[0],0⟩ ⟨Nat.zero_le _,⟨by simp,rfl⟩,by decide,by decide,by decide⟩ ⟨fun i h=>(by cases h),by rfl,Nat.zero_le _,⟨[],rfl,fun y h=>by cases h⟩⟩ rfl
 unfold splitL
 split
 ·rename_i x hx
  refine⟨fun q h=>(by cases h),fun k z h=>?_⟩
  cases h;exact B _ _ hx
 ·rename_i q hq
  obtain⟨a,b⟩:=A q hq
  refine⟨fun l h=>?_,fun k z h=>by cases h⟩
  cases h;exact⟨a.all,b⟩
end Go.Proofs.YtcaeeackccgclaaGreatDoor.Lw
namespace Go.Proofs.YtcaeeackccgclaaGreatDoor
open Go.RowKit Go.Shelf
structure Lx where
 b:List UInt8
 k:Nat×List UInt8×Nat
 sp:Bool
def Lx.bl (x:Lx):List UInt8:=bif x.sp then[32]else[]
def lxB:List Lx→List UInt8
 |[]=>[]
 |x::xs=>x.b++(x.bl++lxB xs)
structure LxOk (x:Lx)(r:List UInt8):Prop where
 ne:x.b≠[]
 tok:∀ (L:List UInt8) (p:Sp),L.drop p.pos=x.b++r→∃ t,tok1 L p= .ok ⟨p.pos+x.b.length,p.toks++[t],p.ins,opF (x.b.getD 0 0) p.opn⟩∧tkey t=x.k
 beg:beg (x.b++r)=true
 no:isDg (x.b.getD 0 0)=true→noInt (x.b++r)=false
 hd:(x.b.getD 0 0).toNat≠32∧(x.b.getD 0 0).toNat≠10∧(x.b.getD 0 0).toNat≠35
def LxsOk:List Lx→List UInt8→Prop
 |[],_=>True
 |x::xs,r=>LxOk x (x.bl++(lxB xs++r))∧LxsOk xs r
def opA:List Lx→Nat→Nat
 |[],o=>o
 |x::xs,o=>opA xs (opF (x.b.getD 0 0) o)
def clsOk:List Lx→Nat→Prop
 |[],_=>True
 |x::xs,o=>(isCls (x.b.getD 0 0)=true→0<o)∧clsOk xs (opF (x.b.getD 0 0) o)
def EndOk (r:List UInt8)(o:Nat):Prop:=r=[]∨((r.getD 0 0).toNat≠32∧(r.getD 0 0).toNat≠35∧((r.getD 0 0).toNat=10→o=0))
theorem skp_sp' (o f:Nat)(r:List UInt8)(hf:r.length+1≤f):skp o f (32::r)=skp o f r+1:=by
 have h0:isBl o 32=true:=by unfold isBl;rw[show decide ((32:UInt8).toNat=32)=true by decide];rfl
 have h1:rch (isBl o) (32::r)=rch (isBl o) r+1:=by show(bif isBl o 32 then _ else 0)=_;rw[h0];rfl
 by_cases h:((r.drop (rch (isBl o) r)).getD 0 0).toNat=35
 ·rw[skp_go o f r (by omega) h,skp_go o f (32::r) (by simpa using hf) (by rw[h1];exact h),h1]
  show rch (isBl o) r+1+rch isNl (r.drop (rch (isBl o) r))+skp o f ((32::r).drop (rch (isBl o) r+1+rch isNl (r.drop (rch (isBl o) r))))=_
  rw[show rch (isBl o) r+1+rch isNl (r.drop (rch (isBl o) r))=(rch (isBl o) r+rch isNl (r.drop (rch (isBl o) r)))+1 by omega,List.drop_succ_cons]
  omega
 ·rw[skp_stop o f r h,skp_stop o f (32::r) (by rw[h1];exact h),h1]
theorem skp_no' (o f:Nat)(c:UInt8)(r:List UInt8)(h:isBl o c=false)(h35:c.toNat≠35):skp o f (c::r)=0:=by
 have h1:rch (isBl o) (c::r)=0:=by show(bif isBl o c then _ else 0)=0;rw[h];rfl
 rw[skp_stop o f (c::r) (by rw[h1];exact h35),h1]
theorem skp_bl {o f:Nat}{r:List UInt8}(sp:Bool)(h:r=[]∨((r.getD 0 0).toNat≠32∧(r.getD 0 0).toNat≠35∧((r.getD 0 0).toNat=10→o=0)))(hf:r.length+1≤f):skp o f ((bif sp then[32]else[])++r)=(bif sp then[32]else[]:List UInt8).length:=by
 have h0:skp o f r=0:=by
  cases r with
  |nil=>cases f<;>rfl
  |cons c r=>
   have h2:=h.resolve_left (by simp)
   have h3:c.toNat≠32:=h2.1
   refine skp_no' o f c r ?_ h2.2.1
   unfold isBl
   rw[show decide (c.toNat=32)=false by simpa using h3,Bool.false_or]
   by_cases h10:c.toNat=10
   ·rw[h2.2.2 h10];simp
   ·rw[show decide (c.toNat=10)=false by simpa using h10];rfl
 cases sp with
 |false=>exact h0
 |true=>
  show skp o f (32::r)=1
  rw[skp_sp' o f r hf,h0]
theorem lxB_app:∀ (xs ys:List Lx),lxB (xs++ys)=lxB xs++lxB ys
 |[],_=>rfl
 |x::xs,ys=>by show x.b++(x.bl++lxB (xs++ys))=(x.b++(x.bl++lxB xs))++lxB ys;rw[lxB_app xs ys];simp
theorem lx_run {L:List UInt8}:∀ (xs:List Lx) (p:Sp) (f:Nat) (r:List UInt8),L.drop p.pos=lxB xs++r→p.pos≤L.length→LxsOk xs r→clsOk xs p.opn→EndOk r (opA xs p.opn)→L.length-p.pos<f→
  (∃ q f',toksF L f p.top p=toksF L f' q.top q∧L.length-q.pos<f'∧L.drop q.pos=r∧q.pos≤L.length∧q.toks.map tkey=p.toks.map tkey++xs.map (·.k)∧q.ins=p.ins∧q.opn=opA xs p.opn)∨∃ z,toksF L f p.top p= .error (2,z)
 |[],p,f,r,hr,hp,_,_,_,hf=>.inl ⟨p,f,rfl,hf,hr,hp,by simp,rfl,rfl⟩
 |x::xs,p,f,r,hr,hp,hx,hc,he,hf=>by
  obtain⟨hx1,hx2⟩:=hx
  obtain⟨hc1,hc2⟩:=hc
  have hr1:L.drop p.pos=x.b++(x.bl++(lxB xs++r)):=by rw[hr];show(x.b++(x.bl++lxB xs))++r=_;simp
  have hne:x.b++(x.bl++(lxB xs++r))≠[]:=by simp[hx1.ne]
  have hhd:(x.b++(x.bl++(lxB xs++r))).getD 0 0=x.b.getD 0 0:=hd_app hx1.ne _
  have hlen:L.length-p.pos=x.b.length+(x.bl.length+(lxB xs++r).length):=by
   have:=congrArg List.length hr1
   rw[List.length_drop,List.length_append,List.length_append]at this
   exact this
  have hb1:0<x.b.length:=List.length_pos_iff.2 hx1.ne
  have hen:endL L p=false:=by
   unfold endL
   rw[hr1,hhd,Bool.or_eq_false_iff]
   exact⟨by rw[decide_eq_false_iff_not];omega,by rw[decide_eq_false_iff_not];exact hx1.hd.2.1⟩
  obtain⟨t,ht,hk⟩:=hx1.tok L p hr1
  by_cases h2:isOpn (x.b.getD 0 0)=true∧p.opn=30
  ·right
   have hre:refu L p p.top=2:=by
    unfold refu
    rw[hr1]
    dsimp only
    rw[hhd,hx1.beg]
    rw[if_neg (fun e=>by
     rcases e with e|e
     ·cases e
     ·have:=hc1 e.1;omega),if_neg (fun e=>absurd e.1 (Nat.lt_irrefl _)),if_neg (fun e=>by have:=hx1.no e.1;rw[this]at e;cases e.2),if_pos (.inl h2)]
   exact⟨p.pos,by rw[toks_ref (by omega) hen (by rw[hre];decide),hre]⟩
  ·have hre:refu L p p.top=0:=by
    unfold refu
    rw[hr1]
    dsimp only
    rw[hhd,hx1.beg]
    rw[if_neg (fun e=>by
     rcases e with e|e
     ·cases e
     ·have:=hc1 e.1;omega),if_neg (fun e=>absurd e.1 (Nat.lt_irrefl _)),if_neg (fun e=>by have:=hx1.no e.1;rw[this]at e;cases e.2),if_neg (fun e=>by
     rcases e with e|e
     ·exact h2 e
     ·exact absurd e.1 (Nat.lt_irrefl _))]
   have hgo:=toks_go (L:=L) (f:=f) (i:=p.top) (by omega) hen hre (by rw[Lw.come_same];exact ht)
   have hdrop:L.drop (p.pos+x.b.length)=x.bl++(lxB xs++r):=by
    rw[←List.drop_drop,hr1,List.drop_left]
   have hnext:EndOk (lxB xs++r) (opF (x.b.getD 0 0) p.opn):=by
    match xs,hx2,he with
    |[],_,he=>exact he
    |y::ys,hx2,_=>
     have h9:(lxB (y::ys)++r).getD 0 0=y.b.getD 0 0:=by
      show((y.b++(y.bl++lxB ys))++r).getD 0 0=_
      rw[List.append_assoc]
      exact hd_app hx2.1.ne _
     right
     rw[h9]
     exact⟨hx2.1.hd.1,hx2.1.hd.2.2,fun e=>absurd e hx2.1.hd.2.1⟩
   have hbl:skp (opF (x.b.getD 0 0) p.opn) L.length (x.bl++(lxB xs++r))=x.bl.length:=skp_bl x.sp hnext (by omega)
   have hsk:Sp.skip L ⟨p.pos+x.b.length,p.toks++[t],p.ins,opF (x.b.getD 0 0) p.opn⟩=⟨p.pos+x.b.length+x.bl.length,p.toks++[t],p.ins,opF (x.b.getD 0 0) p.opn⟩:=by
    show(⟨p.pos+x.b.length+skp (opF (x.b.getD 0 0) p.opn) L.length (L.drop (p.pos+x.b.length)),_,_,_⟩:Sp)=_
    rw[hdrop,hbl]
   rw[hsk]at hgo
   have hd2:L.drop (p.pos+x.b.length+x.bl.length)=lxB xs++r:=by rw[←List.drop_drop,hdrop,List.drop_left]
   rcases lx_run xs ⟨p.pos+x.b.length+x.bl.length,p.toks++[t],p.ins,opF (x.b.getD 0 0) p.opn⟩ (f-1) r hd2 (by show p.pos+x.b.length+x.bl.length≤_;omega) hx2 hc2 he (by show L.length-(p.pos+x.b.length+x.bl.length)<f-1;omega)with⟨q,f',j1,j2,j3,j4,j5,j6,j7⟩|⟨z,j1⟩
   ·refine .inl ⟨q,f',hgo.trans j1,j2,j3,j4,?_,j6,j7⟩
    rw[j5]
    show(p.toks++[t]).map tkey++_=_
    rw[List.map_append,List.append_assoc,List.map_singleton,hk]
    rfl
   ·exact .inr ⟨z,hgo.trans j1⟩
theorem lt_num {c:UInt8}(h:isLt c=true):65≤c.toNat∧c.toNat≤122∧c.toNat≠91∧c.toNat≠93:=by
 unfold isLt at h
 simp at h
 omega
theorem dg_num {c:UInt8}(h:isDg c=true):48≤c.toNat∧c.toNat≤57:=by
 unfold isDg at h
 simpa using h
theorem opF_id {c:UInt8}{o:Nat}(h:c.toNat≠40∧c.toNat≠41∧c.toNat≠91∧c.toNat≠93∧c.toNat≠123∧c.toNat≠125):opF c o=o:=by
 have h1:isOpn c=false:=by unfold isOpn;simp;omega
 have h2:isCls c=false:=by unfold isCls;simp;omega
 unfold opF
 rw[h1,h2]
 rfl
theorem rch_all (h:UInt8→Bool)(r:List UInt8)(hr:r=[]∨h (r.getD 0 0)=false):∀ n:List UInt8,(∀ c∈n,h c=true)→rch h (n++r)=n.length
 |[],_=>by
  cases r with
  |nil=>rfl
  |cons c r=>
   have h2:h c=false:=hr.resolve_left (by simp)
   show(bif h c then _ else 0)=0
   rw[h2]
   rfl
 |c::n,hn=>by
  show(bif h c then rch h (n++r)+1 else 0)=_
  rw[hn c List.mem_cons_self,rch_all h r hr n fun d hd=>hn d (List.mem_cons_of_mem _ hd)]
  rfl
theorem lx_name {n r:List UInt8}(hn:n≠[])(h1:isLt (n.getD 0 0)=true)(h2:∀ c∈n,isNm c=true)(h3:r=[]∨isNm (r.getD 0 0)=false)(sp:Bool):LxOk ⟨n,(bif isWd n then 5 else 1,n,0),sp⟩ r:=by
 have hl:=lt_num h1
 have hd:isDg (n.getD 0 0)=false:=by
  cases hz:isDg (n.getD 0 0)with
  |false=>rfl
  |true=>have:=dg_num hz;omega
 have hh:(n++r).getD 0 0=n.getD 0 0:=hd_app hn r
 have hr:=rch_all isNm r h3 n h2
 refine⟨hn,fun L p hL=>⟨⟨bif isWd n then 5 else 1,n,0,p.pos⟩,?_,rfl⟩,?_,fun h=>(by rw[show isDg (n.getD 0 0)=true from h]at hd;cases hd),(by show(n.getD 0 0).toNat≠32∧(n.getD 0 0).toNat≠10∧(n.getD 0 0).toNat≠35;omega)⟩
 ·unfold tok1
  rw[hL]
  dsimp only
  rw[hh,if_neg (by omega),hd,if_neg (by decide),h1,if_pos rfl,hr,List.take_left',opF_id (by omega)]
  rfl
 ·show beg (n++r)=true
  unfold beg
  rw[hh,h1]
  rfl
theorem lx_int {n r:List UInt8}(hn:n≠[])(h2:∀ c∈n,isDg c=true)(hv:valD 0 n≤9007199254740991)(h0:n.length≤1∨(n.getD 0 0).toNat≠48)(h3:r=[]∨isDg (r.getD 0 0)=false)(sp:Bool):LxOk ⟨n,(2,n,valD 0 n),sp⟩ r:=by
 have h1:isDg (n.getD 0 0)=true:=by
  cases n with
  |nil=>exact absurd rfl hn
  |cons c n=>exact h2 c List.mem_cons_self
 have hl:=dg_num h1
 have hh:(n++r).getD 0 0=n.getD 0 0:=hd_app hn r
 have hr:=rch_all isDg r h3 n h2
 refine⟨hn,fun L p hL=>⟨⟨2,n,valD 0 n,p.pos⟩,?_,rfl⟩,?_,fun _=>?_,(by show(n.getD 0 0).toNat≠32∧(n.getD 0 0).toNat≠10∧(n.getD 0 0).toNat≠35;omega)⟩
 ·unfold tok1
  rw[hL]
  dsimp only
  rw[hh,if_neg (by omega),h1,if_pos rfl,hr,List.take_left' rfl,opF_id (by omega)]
 ·show beg (n++r)=true
  unfold beg
  rw[hh,h1]
  simp
 ·show noInt (n++r)=false
  unfold noInt
  rw[hr,List.take_left' rfl,hh,Bool.or_eq_false_iff]
  refine⟨by rw[decide_eq_false_iff_not];omega,?_⟩
  rcases h0 with h0|h0
  ·rw[show decide (1<n.length)=false by rw[decide_eq_false_iff_not];omega];rfl
  ·rw[show decide ((n.getD 0 0).toNat=48)=false by rw[decide_eq_false_iff_not];exact h0,Bool.and_false]
theorem lx_text {l r:List UInt8}(h:∀ c∈l,okB c=true)(sp:Bool):LxOk ⟨qtL l,(3,l,0),sp⟩ r:=by
 have hg:(qtL l++r).getD 0 0=34:=rfl
 have hlen:(qtL l).length=(l.flatMap qt1).length+2:=by simp[qtL]
 refine⟨by simp[qtL],fun L p hL=>⟨⟨3,l,0,p.pos⟩,?_,rfl⟩,?_,fun h=>absurd (show isDg 34=true from h) (by decide),(by show(34:UInt8).toNat≠32∧(34:UInt8).toNat≠10∧(34:UInt8).toNat≠35;decide)⟩
 ·unfold tok1
  rw[hL]
  dsimp only
  rw[hg,if_pos (by decide)]
  have hd:(qtL l++r).drop 1=(l.flatMap qt1++[34])++r:=by simp[qtL]
  have h1:=txt_qt ((l.flatMap qt1).length+1) l [] (p.pos+1) h (Nat.lt_succ_self _)
  have h2:=txt_app r _ _ _ _ _ _ h1 ((qtL l++r).length+1) (by rw[List.length_append,List.length_append,List.length_append];simp[hlen];omega)
  rw[hd,h2]
  show Except.ok _=Except.ok (⟨p.pos+(qtL l).length,p.toks++[⟨3,l,0,p.pos⟩],p.ins,opF 34 p.opn⟩:Sp)
  rw[opF_id (by decide),hlen]
  simp
  omega
 ·show beg (qtL l++r)=true
  unfold beg
  rw[hg]
  simp
theorem lx_one {c:UInt8}{r:List UInt8}(h1:isSg1 c=true)(h2:two2 (c::r)=false)(sp:Bool):LxOk ⟨[c],(4,[c],0),sp⟩ r:=by
 have hs:sgn (c::r)=1:=by
  unfold sgn
  rw[h2]
  show(bif isSg1 c then 1 else 0)=1
  rw[h1]
  rfl
 have hn:c.toNat∈[61,60,43,45,42,37,40,41,91,93,123,125,44,58]:=by unfold isSg1 at h1;simpa using h1
 have hc:c.toNat≠34∧c.toNat≠32∧c.toNat≠10∧c.toNat≠35∧¬(48≤c.toNat∧c.toNat≤57)∧isLt c=false:=by
  have hlt:isLt c=false:=by
   cases hz:isLt c with
   |false=>rfl
   |true=>
    have:=lt_num hz
    simp at hn
    omega
  simp at hn
  exact⟨by omega,by omega,by omega,by omega,by omega,hlt⟩
 have hd:isDg c=false:=by
  cases hz:isDg c with
  |false=>rfl
  |true=>exact absurd (dg_num hz) hc.2.2.2.2.1
 refine⟨by simp,fun L p hL=>⟨⟨4,[c],0,p.pos⟩,?_,rfl⟩,?_,fun h=>(by rw[show isDg c=true from h]at hd;cases hd),⟨hc.2.1,hc.2.2.1,hc.2.2.2.1⟩⟩
 ·unfold tok1
  rw[hL]
  show(if c.toNat=34 then _ else if isDg c=true then _ else if isLt c=true then _ else Except.ok (⟨p.pos+sgn (c::r),p.toks++[⟨4,(c::r).take (sgn (c::r)),0,p.pos⟩],p.ins,opF c p.opn⟩:Sp))=_
  rw[if_neg hc.1,if_neg (by rw[hd];decide),if_neg (by rw[hc.2.2.2.2.2];decide),hs]
  rfl
 ·show beg (c::r)=true
  unfold beg
  rw[hs]
  simp
theorem lx_two {a b:UInt8}{r:List UInt8}(h2:two2 [a,b]=true)(sp:Bool):LxOk ⟨[a,b],(4,[a,b],0),sp⟩ r:=by
 have hn:[a.toNat,b.toNat]∈([[61,61],[33,61],[60,61],[47,47]]:List (List Nat)):=by unfold two2 at h2;simpa using h2
 have hs:sgn (a::b::r)=2:=by
  unfold sgn
  rw[show two2 (a::b::r)=two2 [a,b]from rfl,h2]
  rfl
 have ha:a.toNat=61∨a.toNat=33∨a.toNat=60∨a.toNat=47:=by
  simp at hn
  omega
 have hlt:isLt a=false:=by
  cases hz:isLt a with
  |false=>rfl
  |true=>have:=lt_num hz;omega
 have hd:isDg a=false:=by
  cases hz:isDg a with
  |false=>rfl
  |true=>have:=dg_num hz;omega
 refine⟨by simp,fun L p hL=>⟨⟨4,[a,b],0,p.pos⟩,?_,rfl⟩,?_,fun h=>(by rw[show isDg a=true from h]at hd;cases hd),(by show a.toNat≠32∧a.toNat≠10∧a.toNat≠35;omega)⟩
 ·unfold tok1
  rw[hL]
  show(if a.toNat=34 then _ else if isDg a=true then _ else if isLt a=true then _ else Except.ok (⟨p.pos+sgn (a::b::r),p.toks++[⟨4,(a::b::r).take (sgn (a::b::r)),0,p.pos⟩],p.ins,opF a p.opn⟩:Sp))=_
  rw[if_neg (by omega),if_neg (by rw[hd];decide),if_neg (by rw[hlt];decide),hs]
  rfl
 ·show beg (a::b::r)=true
  unfold beg
  rw[hs]
  simp
def NmS (t:List UInt8):Prop:=t≠[]∧isLt (t.getD 0 0)=true∧∀ c∈t,isNm c=true
def kW (s:List UInt8):Lx:=⟨s,(bif isWd s then 5 else 1,s,0),false⟩
def kI (n:Nat):Lx:=⟨Lib.decDigits n,(2,Lib.decDigits n,n),false⟩
def kT (s:List UInt8):Lx:=⟨qtL s,(3,s,0),false⟩
def kS (s:List UInt8):Lx:=⟨s,(4,s,0),false⟩
def Lx.and (x:Lx):Lx:={x with sp:=true}
def spL:List Lx→List Lx
 |[]=>[]
 |[x]=>[x.and]
 |x::y::r=>x::spL (y::r)
def lastNo:List Lx→Prop
 |[]=>False
 |[x]=>x.sp=false
 |_::y::r=>lastNo (y::r)
theorem spL_b:∀ xs:List Lx,lastNo xs→lxB (spL xs)=lxB xs++[32]
 |[],h=>h.elim
 |[x],h=>by
  have h0:x.sp=false:=h
  show x.b++(x.and.bl++lxB [])=(x.b++(x.bl++lxB []))++[32]
  unfold Lx.bl
  rw[h0]
  simp[lxB,Lx.and]
 |x::y::r,h=>by
  show x.b++(x.bl++lxB (spL (y::r)))=(x.b++(x.bl++lxB (y::r)))++[32]
  rw[spL_b (y::r) h]
  simp
theorem spL_k:∀ xs:List Lx,(spL xs).map (·.k)=xs.map (·.k)
 |[]=>rfl
 |[_]=>rfl
 |x::y::r=>by show x.k::(spL (y::r)).map (·.k)=x.k::_;rw[spL_k (y::r)]
theorem spL_op:∀ (xs:List Lx) (o:Nat),opA (spL xs) o=opA xs o
 |[],_=>rfl
 |[_],_=>rfl
 |_::y::r,_=>spL_op (y::r) _
theorem spL_cls:∀ (xs:List Lx) (o:Nat),clsOk xs o→clsOk (spL xs) o
 |[],_,h=>h
 |[_],_,h=>h
 |_::y::r,_,h=>⟨h.1,spL_cls (y::r) _ h.2⟩
theorem spL_ok:∀ (xs:List Lx) (r:List UInt8),lastNo xs→LxsOk xs (32::r)→LxsOk (spL xs) r
 |[],_,h,_=>h.elim
 |[x],r,h,hx=>by
  have h0:x.sp=false:=h
  refine⟨?_,trivial⟩
  have h1:LxOk x (x.bl++(lxB []++32::r)):=hx.1
  have e:x.bl++(lxB []++32::r)=32::r:=by unfold Lx.bl;rw[h0];rfl
  rw[e]at h1
  exact⟨h1.ne,h1.tok,h1.beg,h1.no,h1.hd⟩
 |x::y::s,r,h,hx=>by
  refine⟨?_,spL_ok (y::s) r h hx.2⟩
  have h1:=hx.1
  have e:lxB (spL (y::s))++r=lxB (y::s)++32::r:=by rw[spL_b (y::s) h];simp
  show LxOk x (x.bl++(lxB (spL (y::s))++r))
  rw[e]
  exact h1
theorem lastNo_app:∀ (xs ys:List Lx),lastNo ys→lastNo (xs++ys)
 |[],_,h=>h
 |[x],ys,h=>by
  cases ys with
  |nil=>exact h.elim
  |cons y r=>exact h
 |x::y::r,ys,h=>lastNo_app (y::r) ys h
theorem opA_app:∀ (xs ys:List Lx) (o:Nat),opA (xs++ys) o=opA ys (opA xs o)
 |[],_,_=>rfl
 |_::xs,ys,_=>opA_app xs ys _
theorem cls_app:∀ (xs ys:List Lx) (o:Nat),clsOk xs o→clsOk ys (opA xs o)→clsOk (xs++ys) o
 |[],_,_,_,h=>h
 |_::xs,ys,_,h,g=>⟨h.1,cls_app xs ys _ h.2 g⟩
theorem ok_app:∀ (xs ys:List Lx) (r:List UInt8),LxsOk xs (lxB ys++r)→LxsOk ys r→LxsOk (xs++ys) r
 |[],_,_,_,h=>h
 |x::xs,ys,r,h,g=>by
  refine⟨?_,ok_app xs ys r h.2 g⟩
  have e:lxB (xs++ys)++r=lxB xs++(lxB ys++r):=by rw[lxB_app];simp
  show LxOk x (x.bl++(lxB (xs++ys)++r))
  rw[e]
  exact h.1
structure Wh (xs:List Lx):Prop where
 op:∀ o,opA xs o=o
 cls:∀ o,clsOk xs o
 ok:∀ r:List UInt8,(r=[]∨isNm (r.getD 0 0)=false)→LxsOk xs r
 last:lastNo xs
theorem wh_name {t:List UInt8}(h:NmS t):Wh [kW t]:=by
 have hl:=lt_num h.2.1
 have hid:∀ o,opF (t.getD 0 0) o=o:=fun o=>opF_id (by omega)
 have hc:isCls (t.getD 0 0)=false:=by unfold isCls;rw[decide_eq_false (by omega),decide_eq_false (by omega),decide_eq_false (by omega)];rfl
 exact⟨fun o=>hid o,fun o=>⟨fun e=>by rw[show isCls (t.getD 0 0)=true from e]at hc;exact absurd hc (by decide),trivial⟩,fun r hr=>⟨lx_name h.1 h.2.1 h.2.2 hr false,trivial⟩,rfl⟩
theorem dec_facts:∀ (m n:Nat),n<m→Lib.decDigits n≠[]∧(∀ c∈Lib.decDigits n,isDg c=true)∧(∀ a,valD a (Lib.decDigits n)=a*10 ^ (Lib.decDigits n).length+n)∧(10≤n→((Lib.decDigits n).getD 0 0).toNat≠48)
 |0,_,h=>by omega
 |m+1,n,h=>by
  have dgk:∀ i,i<10→isDg (UInt8.ofNat (48+i))=true∧(UInt8.ofNat (48+i)).toNat=48+i:=fun i hi=>by
   have e:(UInt8.ofNat (48+i)).toNat=48+i:=by rw[UInt8.toNat_ofNat'];omega
   exact⟨by unfold isDg;rw[e];simp;omega,e⟩
  by_cases h10:n<10
  ·have e:=Lib.decDigits_one h10
   obtain⟨d1,d2⟩:=dgk n h10
   rw[e]
   refine⟨by simp,fun c hc=>by rw[List.mem_singleton.1 hc];exact d1,fun a=>?_,fun h=>by omega⟩
   show valD (10*a+((UInt8.ofNat (48+n)).toNat-48)) []=_
   rw[d2]
   show 10*a+(48+n-48)=a*10 ^ 1+n
   omega
  ·have e:Lib.decDigits n=Lib.decDigits (n/10)++[UInt8.ofNat (48+n%10)]:=by rw[Lib.decDigits,dif_neg h10]
   obtain⟨k1,k2,k3,k4⟩:=dec_facts m (n/10) (by omega)
   obtain⟨d1,d2⟩:=dgk (n%10) (Nat.mod_lt _ (by decide))
   have vapp:∀ (l:List UInt8) (a:Nat) (c:UInt8),valD a (l++[c])=10*valD a l+(c.toNat-48):=fun l=>by
    induction l with
    |nil=>intro a c;rfl
    |cons d l ih=>intro a c;exact ih _ c
   rw[e]
   refine⟨by simp,fun c hc=>?_,fun a=>?_,fun _=>?_⟩
   ·rcases List.mem_append.1 hc with h1|h1
    ·exact k2 c h1
    ·rw[List.mem_singleton.1 h1];exact d1
   ·rw[vapp,k3,d2,List.length_append,List.length_singleton,Nat.pow_succ]
    have:=Nat.div_add_mod n 10
    rw[Nat.mul_add,←Nat.mul_assoc,←Nat.mul_assoc,Nat.mul_comm 10 a,Nat.mul_right_comm]
    omega
   ·rw[hd_app k1]
    by_cases h100:n/10<10
    ·rw[Lib.decDigits_one h100]
     show(UInt8.ofNat (48+n/10)).toNat≠48
     rw[(dgk _ h100).2]
     omega
    ·exact k4 (by omega)
theorem dec_val (n:Nat):valD 0 (Lib.decDigits n)=n:=by
 have:=(dec_facts (n+1) n (Nat.lt_succ_self n)).2.2.1 0
 rw[this]
 omega
theorem dg_nm {c:UInt8}(h:isNm c=false):isDg c=false:=by
 unfold isNm at h
 exact(Bool.or_eq_false_iff.1 h).2
theorem wh_int {n:Nat}(h:n≤9007199254740991):Wh [kI n]:=by
 obtain⟨k1,k2,_,k4⟩:=dec_facts (n+1) n (Nat.lt_succ_self n)
 have hh:isDg ((Lib.decDigits n).getD 0 0)=true:=by
  cases hz:Lib.decDigits n with
  |nil=>exact absurd hz k1
  |cons c t=>exact k2 c (by rw[hz];exact List.mem_cons_self)
 have hl:=dg_num hh
 have hid:∀ o,opF ((Lib.decDigits n).getD 0 0) o=o:=fun o=>opF_id (by omega)
 have hc:isCls ((Lib.decDigits n).getD 0 0)=false:=by unfold isCls;rw[decide_eq_false (by omega),decide_eq_false (by omega),decide_eq_false (by omega)];rfl
 refine⟨fun o=>hid o,fun o=>⟨fun e=>by rw[show isCls ((Lib.decDigits n).getD 0 0)=true from e]at hc;exact absurd hc (by decide),trivial⟩,fun r hr=>⟨?_,trivial⟩,rfl⟩
 have hv:=dec_val n
 have:=lx_int (n:=Lib.decDigits n) (r:=r) k1 k2 (by rw[hv];exact h) (by
  by_cases h10:10≤n
  ·exact .inr (k4 h10)
  ·rw[Lib.decDigits_one (by omega)];exact .inl (Nat.le_refl 1)) (hr.imp id fun h=>dg_nm h) false
 rw[hv]at this
 exact this
theorem wh_text {t:List UInt8}(h:∀ c∈t,okB c=true):Wh [kT t]:=
 ⟨fun o=>opF_id (c:=34) (by decide),fun o=>⟨fun e=>absurd (show isCls 34=true from e) (by decide),trivial⟩,fun r _=>⟨lx_text h false,trivial⟩,rfl⟩
end Go.Proofs.YtcaeeackccgclaaGreatDoor
