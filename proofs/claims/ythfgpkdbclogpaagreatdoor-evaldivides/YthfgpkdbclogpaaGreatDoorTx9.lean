/- 9. -/
import Derived.Test.YthfgpkdbclogpaaGreatDoorTx8
set_option maxHeartbeats 40000000
set_option maxRecDepth 100000
namespace Go.Proofs.YthfgpkdbclogpaaGreatDoor
open Go.RowKit Go.Shelf
structure SpOk (L:List UInt8)(p:Sp)(k:Nat):Prop where
 pos:p.pos≤L.length
 ins:InOk p
 i31:p.ins.length≤31
 o30:p.opn≤30
 cnt:p.toks.length+p.ins.length≤4*p.pos+k
theorem InOk.of {p q:Sp}(h:InOk p)(e:q.ins=p.ins):InOk q:=⟨by rw[e];exact h.ne,by rw[e];exact h.bot⟩
theorem outF_ok (i:Nat):∀ (f:Nat) (p:Sp),InOk p→(outF i f p).pos=p.pos∧(outF i f p).opn=p.opn∧InOk (outF i f p)∧(outF i f p).ins.length≤p.ins.length∧(outF i f p).toks.length+(outF i f p).ins.length=p.toks.length+p.ins.length:=by
 intro f
 induction f with
 |zero=>intro p h;exact⟨rfl,rfl,h,Nat.le_refl _,rfl⟩
 |succ f ih=>
  intro p h
  by_cases hi:i<p.top
  ·have h2:=h.two i hi
   rw[outF_step i f p hi]
   obtain⟨a,b,c,d,e⟩:=ih ({p with ins:=p.ins.drop 1}.add 8) (h.pop h2 _ rfl)
   have e1:(({p with ins:=p.ins.drop 1}:Sp).add 8).ins.length=p.ins.length-1:=List.length_drop
   have e2:(({p with ins:=p.ins.drop 1}:Sp).add 8).toks.length=p.toks.length+1:=by
    show(p.toks++[_]).length=_
    simp
   exact⟨a,b,c,by omega,by omega⟩
  ·rw[outF_stop i _ p hi]
   exact⟨rfl,rfl,h,Nat.le_refl _,rfl⟩
theorem come_ok {p:Sp}(h:InOk p)(i:Nat):(p.come i).pos=p.pos∧(p.come i).opn=p.opn∧InOk (p.come i)∧(p.come i).ins.length≤p.ins.length+(if p.top<i then 1 else 0)∧(p.come i).toks.length+(p.come i).ins.length≤p.toks.length+p.ins.length+2:=by
 show(outF i _ _).pos=_∧(outF i _ _).opn=_∧InOk (outF i _ _)∧(outF i _ _).ins.length≤_∧(outF i _ _).toks.length+(outF i _ _).ins.length≤_
 by_cases ht:p.top<i
 ·rw[if_pos ht,if_pos ht]
  obtain⟨a,b,c,d,e⟩:=outF_ok i (({p with ins:=i::p.ins}:Sp).add 7).ins.length (({p with ins:=i::p.ins}:Sp).add 7) (h.push i _ rfl)
  have e1:(({p with ins:=i::p.ins}:Sp).add 7).ins.length=p.ins.length+1:=rfl
  have e2:(({p with ins:=i::p.ins}:Sp).add 7).toks.length=p.toks.length+1:=by
   show(p.toks++[_]).length=_
   simp
  exact⟨a,b,c,by omega,by omega⟩
 ·rw[if_neg ht,if_neg ht]
  obtain⟨a,b,c,d,e⟩:=outF_ok i p.ins.length p h
  exact⟨a,b,c,by omega,by omega⟩
theorem txt_pos:∀ (f:Nat) (r said:List UInt8) (x:Nat) (t:List UInt8) (y:Nat),txt f r said x= .ok (t,y)→x<y∧y≤x+r.length:=by
 intro f
 induction f with
 |zero=>intro r said x t y h;cases h
 |succ f ih=>
  intro r said x t y h
  unfold txt at h
  by_cases h0:r=[]
  ·simp only[h0,if_true]at h;cases h
  simp only[h0,if_false]at h
  have hl:0<r.length:=List.length_pos_iff.2 h0
  split at h
  ·cases h;omega
  split at h
  ·split at h
   ·cases h
   rename_i h1
   have hl2:0<(r.drop 1).length:=List.length_pos_iff.2 h1
   rw[List.length_drop]at hl2
   split at h
   ·have:=ih _ _ _ _ _ h;rw[List.length_drop]at this;omega
   split at h
   ·have:=ih _ _ _ _ _ h;rw[List.length_drop]at this;omega
   split at h
   ·have:=ih _ _ _ _ _ h;rw[List.length_drop]at this;omega
   ·cases h
  split at h
  ·cases h
  ·have h1:=rch_le isPl r
   have:=ih _ _ _ _ _ h
   rw[List.length_drop]at this
   omega
theorem opn_le (a b:Bool)(n:Nat)(h:a=true→n<30)(h':n≤30):(if a=true then n+1 else if b=true then n-1 else n)≤30:=by
 cases a with
 |true=>have:=h rfl;simp only[if_true];omega
 |false=>
  cases b with
  |true=>simp;omega
  |false=>simpa using h'
theorem tok1_ok {L:List UInt8}{p q:Sp}(h:tok1 L p= .ok q)(hp:p.pos<L.length)(hb:beg (L.drop p.pos)=true)(hm:isOpn (L.getD p.pos 0)=true→p.opn<30)(ho:p.opn≤30):
  p.pos<q.pos∧q.pos≤L.length∧q.ins=p.ins∧q.toks.length=p.toks.length+1∧q.opn≤30:=by
 have hdl:(L.drop p.pos).length=L.length-p.pos:=List.length_drop
 have hrl:0<(L.drop p.pos).length:=by omega
 unfold tok1 at h
 simp only[at_drop]at h
 split at h
 ·split at h
  ·cases h
  ·rename_i t y ht
   have:=txt_pos _ _ _ _ _ _ ht
   rw[List.length_drop]at this
   cases h
   exact⟨by show p.pos<y;omega,by show y≤_;omega,rfl,by show(p.toks++[_]).length=_;simp,ho⟩
 rename_i h34
 split at h
 ·rename_i hd
  have h1:=rch_le isDg (L.drop p.pos)
  have h2:0<rch isDg (L.drop p.pos):=rch_pos hrl (by rw[at_drop];exact hd)
  cases h
  exact⟨by show p.pos<p.pos+_;omega,by show p.pos+_≤_;omega,rfl,by show(p.toks++[_]).length=_;simp,ho⟩
 rename_i hd
 split at h
 ·rename_i hlt
  have h1:=rch_le isNm (L.drop p.pos)
  have h2:0<rch isNm (L.drop p.pos):=rch_pos hrl (by rw[at_drop];unfold isNm;rw[hlt];rfl)
  cases h
  exact⟨by show p.pos<p.pos+_;omega,by show p.pos+_≤_;omega,rfl,by show(p.toks++[_]).length=_;simp,ho⟩
 rename_i hlt
 have h1:=sgn_le _ hrl
 have h2:0<sgn (L.drop p.pos):=by
  unfold beg at hb
  rw[at_drop]at hb
  rw[show isDg (L.getD p.pos 0)=false from by simpa using hd,show isLt (L.getD p.pos 0)=false from by simpa using hlt]at hb
  simp at hb
  rcases hb with hb|hb
  ·exact absurd hb h34
  ·exact hb
 cases h
 refine⟨by show p.pos<p.pos+_;omega,by show p.pos+_≤_;omega,rfl,by show(p.toks++[_]).length=_;simp,?_⟩
 exact opn_le _ _ _ hm ho
theorem skip_ok {L:List UInt8}{p:Sp}(hp:p.pos≤L.length):p.pos≤(p.skip L).pos∧(p.skip L).pos≤L.length:=by
 have:=skp_len p.opn L.length (L.drop p.pos)
 rw[List.length_drop]at this
 exact⟨Nat.le_add_right _ _,by show p.pos+_≤_;omega⟩
theorem refu_zero {L:List UInt8}{p:Sp}{i:Nat}(h:refu L p i=0):beg (L.drop p.pos)=true∧(isCls (L.getD p.pos 0)=true→0<p.opn)∧(isDg (L.getD p.pos 0)=true→noInt (L.drop p.pos)=false)∧(isOpn (L.getD p.pos 0)=true→p.opn≠30)∧(p.top<i→p.ins.length≤30):=by
 unfold refu at h
 simp only[at_drop]at h
 split at h
 ·cases h
 rename_i h1
 split at h
 ·cases h
 split at h
 ·cases h
 rename_i h3
 split at h
 ·cases h
 rename_i h4
 refine⟨?_,fun hc=>?_,fun hd=>?_,fun hop e=>h4 (.inl ⟨hop,e⟩),fun ht=>?_⟩
 ·cases hb:beg (L.drop p.pos)with
  |true=>rfl
  |false=>exact absurd (.inl hb) h1
 ·rcases Nat.eq_zero_or_pos p.opn with e|e
  ·exact absurd (.inr ⟨hc,e⟩) h1
  ·exact e
 ·cases hn:noInt (L.drop p.pos)with
  |false=>rfl
  |true=>exact absurd ⟨hd,hn⟩ h3
 ·rcases Nat.lt_or_ge 30 p.ins.length with e|e
  ·exact absurd (.inr ⟨ht,e⟩) h4
  ·exact e
theorem turn_ok {L:List UInt8}{p q:Sp}{i:Nat}(h:SpOk L p 1)(hp:p.pos<L.length)(hr:refu L p i=0)(ht:tok1 L (p.come i)= .ok q):SpOk L (q.skip L) 1∧p.pos<(q.skip L).pos:=by
 obtain⟨r1,r2,r3,r4,r5⟩:=refu_zero hr
 obtain⟨a,b,c,d,e⟩:=come_ok h.ins i
 obtain⟨t1,t2,t3,t4,t5⟩:=tok1_ok ht (by rw[a];exact hp) (by rw[a];exact r1) (by rw[a,b];intro ho;have:=r4 ho;have:=h.o30;omega) (by rw[b];exact h.o30)
 obtain⟨s1,s2⟩:=skip_ok (L:=L) t2
 have hi:(p.come i).ins.length≤31:=by
  by_cases htp:p.top<i
  ·rw[if_pos htp]at d;have:=r5 htp;omega
  ·rw[if_neg htp]at d;have:=h.i31;omega
 refine⟨⟨s2,c.of t3,?_,t5,?_⟩,by omega⟩
 ·show q.ins.length≤31
  rw[t3];exact hi
 ·show q.toks.length+q.ins.length≤4*(q.skip L).pos+1
  have:=h.cnt
  rw[t3]
  omega
theorem ErrR.low {B:Nat}{w w':World}(h:ErrR w)(hg:7<B)(hb:Below B w w'):ErrR w':=by
 obtain⟨ev,h1,h2⟩:=h
 exact⟨ev,(hb.cell (p:=⟨7,0,none⟩) hg).trans h1,h2⟩
theorem row_shape {w:World}{base:Nat}{e:TypeId}{size:Nat}{v:Value}{n:Nat}{xs:List Value}(h:w.ownsRow base e size v n xs):∃ ao cap,v= .slice ao n cap:=by
 rcases h.2 with⟨a,b⟩|⟨g,cap,cur,hv,_⟩
 ·subst b;exact⟨none,0,a⟩
 ·exact⟨_,cap,hv⟩
theorem line_err {L:List UInt8}{p:Sp}{x:Ft}(h:toksF L (L.length+1) (skp p.opn L.length (L.drop p.pos)) (p.skip L)= .error x):lineF L p= .error x:=by
 unfold lineF;rw[h]
theorem line_ok {L:List UInt8}{p q:Sp}(h:toksF L (L.length+1) (skp p.opn L.length (L.drop p.pos)) (p.skip L)= .ok q):lineF L p=if 0<q.opn then .error (1,q.pos)else if p.toks.length<q.toks.length then .ok (q.add 6)else .ok q:=by
 unfold lineF;rw[h]
theorem toks_end {L:List UInt8}{f i:Nat}{r:Sp}(hf:L.length-r.pos<f)(h:endL L r=true):toksF L f i r= .ok r:=by
 cases f with
 |zero=>omega
 |succ f=>unfold toksF;rw[if_pos h]
theorem toks_ref {L:List UInt8}{f i:Nat}{r:Sp}(hf:L.length-r.pos<f)(h:endL L r=false)(h2:refu L r i≠0):toksF L f i r= .error (refu L r i,r.pos):=by
 cases f with
 |zero=>omega
 |succ f=>unfold toksF;rw[if_neg (by rw[h];decide),if_pos h2]
theorem toks_bad {L:List UInt8}{f i:Nat}{r:Sp}{x:Ft}(hf:L.length-r.pos<f)(h:endL L r=false)(h2:refu L r i=0)(h3:tok1 L (r.come i)= .error x):toksF L f i r= .error x:=by
 cases f with
 |zero=>omega
 |succ f=>unfold toksF;rw[if_neg (by rw[h];decide),if_neg (by rw[h2];decide),h3]
theorem toks_go {L:List UInt8}{f i:Nat}{r q:Sp}(hf:L.length-r.pos<f)(h:endL L r=false)(h2:refu L r i=0)(h3:tok1 L (r.come i)= .ok q):toksF L f i r=toksF L (f-1) (q.skip L).top (q.skip L):=by
 cases f with
 |zero=>omega
 |succ f=>
  conv=>lhs;unfold toksF
  rw[if_neg (by rw[h];decide),if_neg (by rw[h2];decide),h3]
  rfl
theorem line_any {B P:Nat}{L:List UInt8}{tv iv:Value}{w:World}{p:Sp}(h:TS B P L tv iv w p)(hL:L.length≤6000)(hk:SpOk L p 1)(hg:7<B)(hr:ErrR w):
  Calls Tryz.prog 213 #[.pointer (some ⟨P,0,none⟩)] w fun e w'=>StP B P L w (lineF L p) e w':=by
 have c1:=h.c1
 have c2:=h.c2
 have H:Hid (TS B P L tv iv w p∧SpOk L p 1∧ErrR w∧7<B):=⟨h,hk,hr,hg⟩
 have HSk:Hid (∀ n,Calls Tryz.prog 237 #[.pointer (some ⟨P,0,none⟩)] (w.drewN n) fun e w'=>e= .returned (.tuple #[])∧TS B P L tv iv w' (p.skip L)∧Below B w w'):=fun n=>(skip_any (h.drewN n) hL hk.pos).mono fun e w' ⟨a,b,c,_⟩=>⟨a,b,(below_drewN (Below.refl B w) n).trans c⟩
 obtain⟨ao,cap,htv⟩:=row_shape h.ot
 have hsk:=skip_ok (L:=L) hk.pos
 have HOk:Hid (SpOk L (p.skip L) 1):=⟨hsk.2,hk.ins.of rfl,hk.i31,hk.o30,by show p.toks.length+p.ins.length≤4*(p.skip L).pos+1;have:=hk.cnt;omega⟩
 have hps:((p.skip L).pos:Int)-(p.pos:Int)=(skp p.opn L.length (L.drop p.pos):Int):=by
  show((p.pos+skp p.opn L.length (L.drop p.pos):Nat):Int)-_=_
  omega
 have hsk2:=hsk.2
 have hsl:(skp p.opn L.length (L.drop p.pos):Int)≤6000:=by
  have:=skp_len p.opn L.length (L.drop p.pos)
  rw[List.length_drop]at this
  omega
 have hwp:IntKind.i64.wrap (skp p.opn L.length (L.drop p.pos):Int)=(skp p.opn L.length (L.drop p.pos):Int):=by rw[IntKind.wrap_i64];omega
 obtain⟨i0,hi0⟩:∃ i0,i0=skp p.opn L.length (L.drop p.pos):=⟨_,rfl⟩
 obtain⟨p0,hp0⟩:∃ p0,p0=p.skip L:=⟨_,rfl⟩
 have HErr:Hid (∀ x,toksF L (L.length+1) i0 p0= .error x→lineF L p= .error x):=fun x hx=>line_err (by rw[←hi0,←hp0];exact hx)
 have HFin:Hid (∀ q,toksF L (L.length+1) i0 p0= .ok q→toksF L (L.length+1) (skp p.opn L.length (L.drop p.pos)) (p.skip L)= .ok q):=fun q hx=>by rw[←hi0,←hp0];exact hx
 rw[←hp0]at hps HOk HSk hsk2
 rw[←hi0]at hps hsl hwp
 clear h hk hr hi0 hp0 hsk hg
 subst htv
 go_enter Tryz.func213,Tryz.ntmps213
 go_wp2
 go_quiet (fail)
 go_wp2_with fail
 refine(HSk.out nq).mono ?_
 rintro e w1 ⟨rfl,hts1,hb1⟩
 have d1:=hts1.c1
 have H1:Hid (TS B P L (.slice ao p.toks.length cap) iv w1 p0∧Below B w w1):=⟨hts1,hb1⟩
 clear hts1 hb1 HSk c1 c2
 go_wp2
 go_loopw [4] (fun v wr=>∃ (i f:Nat) (r:Sp) (tv2 iv2:Value),v= .int .i64 (i:Int)∧r.pos≤L.length∧Hid (TS B P L tv2 iv2 wr r∧Below B w wr∧SpOk L r 1∧L.length-r.pos<f∧toksF L (L.length+1) i0 p0=toksF L f i r)) (fun _ wr=>L.length-posOf P wr)
 case atStart=>exact⟨i0,L.length+1,p0,_,_,rfl,hsk2,H1.out.1,H1.out.2,HOk.out,by omega,rfl⟩
 case round=>
  obtain⟨i,f,r,tv2,iv2,rfl,hrp,HR⟩:=hrel
  clear H1 HOk d1 hps hsl hwp hsk2
  have HEd:Hid (∀ n,Calls Tryz.prog 212 #[.pointer (some ⟨P,0,none⟩)] (wr.drewN n) fun e w'=>e= .returned (.bool (decide (r.pos=L.length)))∧∃ m,w'=wr.drewN m):=fun n=>(ended_any (HR.out.1.drewN n)).mono fun e w' ⟨a,m,b⟩=>⟨a,n+m,by rw[b,World.drewN_drewN]⟩
  have HSe:Hid (∀ n,Calls Tryz.prog 238 #[.pointer (some ⟨P,0,none⟩),.int .u8 (10:Nat)] (wr.drewN n) fun e w'=>e= .returned (.bool (decide ((L.getD r.pos 0).toNat=10)))∧∃ m,w'=wr.drewN m):=fun n=>(sees_any (HR.out.1.drewN n) hrp 10 (by decide)).mono fun e w' ⟨a,m,b⟩=>⟨a,n+m,by rw[b,World.drewN_drewN]⟩
  by_cases hen:r.pos=L.length
  ·rw[show decide (r.pos=L.length)=true from by simpa using hen]at HEd
   have HEnd:Hid (toksF L (L.length+1) (skp p.opn L.length (L.drop p.pos)) (p.skip L)= .ok r):=HFin.out r (HR.out.2.2.2.2.trans (toks_end HR.out.2.2.2.1 (by unfold endL;rw[show decide (r.pos=L.length)=true from by simpa using hen];rfl)))
   clear hen HSe
   go_wp2_with fail
   refine(HEd.out 0).mono ?_
   rintro e w' ⟨rfl,n,rfl⟩
   have HZ:Hid (TS B P L tv2 iv2 (wr.drewN n) r∧Below B w (wr.drewN n)):=⟨HR.out.1.drewN n,below_drewN HR.out.2.1 n⟩
   generalize wr.drewN n=w5 at *
   have z4:=HZ.out.1.c4
   have z2:=HZ.out.1.c2
   have HGu:Hid (Calls Tryz.prog 242 #[.pointer (some ⟨P,0,none⟩),.int .i64 1] w5 fun e w'=>e=PF 1 r.pos∧w'=w5):=giveUp_any HZ.out.1 1
   have HAd:Hid (∀ n,Calls Tryz.prog 243 #[.pointer (some ⟨P,0,none⟩),.int .i64 (6:Nat)] (w5.drewN n) fun e w'=>e= .returned (.tuple #[])∧∃ tv',TS B P L tv' iv2 w' (r.add 6)∧Below B (w5.drewN n) w'):=fun n=>add_any (HZ.out.1.drewN n) 6 (by have:=HR.out.2.2.1.cnt;have:=HR.out.2.2.1.pos;omega)
   obtain⟨ao2,cap2,htv2⟩:=row_shape HZ.out.1.ot
   have hoi:((0:Int)<(r.opn:Int))↔0<r.opn:=by omega
   have hli:((p.toks.length:Int)<(r.toks.length:Int))↔p.toks.length<r.toks.length:=by omega
   by_cases ho:0<r.opn
   ·have hod:decide ((0:Int)<(r.opn:Int))=true:=by simpa using ho
    have HRV:Hid (lineF L p= .error (1,r.pos)):=by show _=_;rw[line_ok HEnd.out,if_pos ho]
    generalize(r.opn:Int)=oi at *
    have hop:(0:Int)<oi:=by simpa using hod
    clear hli hoi ho hod
    go_wp2_with fail
    refine HGu.out.mono ?_
    rintro e w' ⟨rfl,rfl⟩
    go_wp2
    refine⟨rfl,fun k z hz=>?_,fun q hq=>?_,HZ.out.2⟩
    ·rw[HRV.out]at hz;cases hz;rfl
    ·rw[HRV.out]at hq;cases hq
   ·have hop:¬(0:Int)<(r.opn:Int):=by omega
    have HRV:Hid (lineF L p=if p.toks.length<r.toks.length then .ok (r.add 6)else .ok r):=by show _=_;rw[line_ok HEnd.out,if_neg ho]
    subst htv2
    by_cases hl:p.toks.length<r.toks.length
    ·have hlt:(p.toks.length:Int)<(r.toks.length:Int):=by omega
     have HRV2:Hid (lineF L p= .ok (r.add 6)):=by show _=_;rw[HRV.out,if_pos hl]
     generalize(r.opn:Int)=oi at *
     clear hli hoi ho hl
     go_wp2_with fail
     refine(HAd.out 0).mono ?_
     rintro e w' ⟨rfl,tv6,hts6,hb6⟩
     have HW:Hid (TS B P L tv6 iv2 w' (r.add 6)∧Below B w w'):=⟨hts6,HZ.out.2.trans hb6⟩
     clear hts6 hb6
     go_wp2
     go_end0
     refine⟨fun k z hz=>?_,fun q hq=>?_,HW.out.2⟩
     ·rw[HRV2.out]at hz;cases hz
     ·rw[HRV2.out]at hq;cases hq;exact⟨rfl,_,_,HW.out.1⟩
    ·have hlt:¬(p.toks.length:Int)<(r.toks.length:Int):=by omega
     have HRV2:Hid (lineF L p= .ok r):=by show _=_;rw[HRV.out,if_neg hl]
     generalize(r.opn:Int)=oi at *
     clear hli hoi ho hl
     go_wp2
     go_end0
     refine⟨fun k z hz=>?_,fun q hq=>?_,HZ.out.2⟩
     ·rw[HRV2.out]at hz;cases hz
     ·rw[HRV2.out]at hq;cases hq;exact⟨rfl,_,_,HZ.out.1⟩
  ·rw[show decide (r.pos=L.length)=false from by simpa using hen]at HEd
   by_cases hse:(L.getD r.pos 0).toNat=10
   ·rw[show decide ((L.getD r.pos 0).toNat=10)=true from by simpa using hse]at HSe
    have HEnd:Hid (toksF L (L.length+1) (skp p.opn L.length (L.drop p.pos)) (p.skip L)= .ok r):=HFin.out r (HR.out.2.2.2.2.trans (toks_end HR.out.2.2.2.1 (by unfold endL;rw[at_drop,show decide ((L.getD r.pos 0).toNat=10)=true from by simpa using hse];simp)))
    clear hen hse
    go_wp2_with fail
    refine(HEd.out 0).mono ?_
    rintro e w' ⟨rfl,n0,rfl⟩
    go_wp2_with fail
    refine(HSe.out n0).mono ?_
    rintro e w' ⟨rfl,n,rfl⟩
    have HZ:Hid (TS B P L tv2 iv2 (wr.drewN n) r∧Below B w (wr.drewN n)):=⟨HR.out.1.drewN n,below_drewN HR.out.2.1 n⟩
    generalize wr.drewN n=w5 at *
    have z4:=HZ.out.1.c4
    have z2:=HZ.out.1.c2
    have HGu:Hid (Calls Tryz.prog 242 #[.pointer (some ⟨P,0,none⟩),.int .i64 1] w5 fun e w'=>e=PF 1 r.pos∧w'=w5):=giveUp_any HZ.out.1 1
    have HAd:Hid (∀ n,Calls Tryz.prog 243 #[.pointer (some ⟨P,0,none⟩),.int .i64 (6:Nat)] (w5.drewN n) fun e w'=>e= .returned (.tuple #[])∧∃ tv',TS B P L tv' iv2 w' (r.add 6)∧Below B (w5.drewN n) w'):=fun n=>add_any (HZ.out.1.drewN n) 6 (by have:=HR.out.2.2.1.cnt;have:=HR.out.2.2.1.pos;omega)
    obtain⟨ao2,cap2,htv2⟩:=row_shape HZ.out.1.ot
    have hoi:((0:Int)<(r.opn:Int))↔0<r.opn:=by omega
    have hli:((p.toks.length:Int)<(r.toks.length:Int))↔p.toks.length<r.toks.length:=by omega
    by_cases ho:0<r.opn
    ·have hod:decide ((0:Int)<(r.opn:Int))=true:=by simpa using ho
     have HRV:Hid (lineF L p= .error (1,r.pos)):=by show _=_;rw[line_ok HEnd.out,if_pos ho]
     generalize(r.opn:Int)=oi at *
     have hop:(0:Int)<oi:=by simpa using hod
     clear hli hoi ho hod
     go_wp2_with fail
     refine HGu.out.mono ?_
     rintro e w' ⟨rfl,rfl⟩
     go_wp2
     refine⟨rfl,fun k z hz=>?_,fun q hq=>?_,HZ.out.2⟩
     ·rw[HRV.out]at hz;cases hz;rfl
     ·rw[HRV.out]at hq;cases hq
    ·have hop:¬(0:Int)<(r.opn:Int):=by omega
     have HRV:Hid (lineF L p=if p.toks.length<r.toks.length then .ok (r.add 6)else .ok r):=by show _=_;rw[line_ok HEnd.out,if_neg ho]
     subst htv2
     by_cases hl:p.toks.length<r.toks.length
     ·have hlt:(p.toks.length:Int)<(r.toks.length:Int):=by omega
      have HRV2:Hid (lineF L p= .ok (r.add 6)):=by show _=_;rw[HRV.out,if_pos hl]
      generalize(r.opn:Int)=oi at *
      clear hli hoi ho hl
      go_wp2_with fail
      refine(HAd.out 0).mono ?_
      rintro e w' ⟨rfl,tv6,hts6,hb6⟩
      have HW:Hid (TS B P L tv6 iv2 w' (r.add 6)∧Below B w w'):=⟨hts6,HZ.out.2.trans hb6⟩
      clear hts6 hb6
      go_wp2
      go_end0
      refine⟨fun k z hz=>?_,fun q hq=>?_,HW.out.2⟩
      ·rw[HRV2.out]at hz;cases hz
      ·rw[HRV2.out]at hq;cases hq;exact⟨rfl,_,_,HW.out.1⟩
     ·have hlt:¬(p.toks.length:Int)<(r.toks.length:Int):=by omega
      have HRV2:Hid (lineF L p= .ok r):=by show _=_;rw[HRV.out,if_neg hl]
      generalize(r.opn:Int)=oi at *
      clear hli hoi ho hl
      go_wp2
      go_end0
      refine⟨fun k z hz=>?_,fun q hq=>?_,HZ.out.2⟩
      ·rw[HRV2.out]at hz;cases hz
      ·rw[HRV2.out]at hq;cases hq;exact⟨rfl,_,_,HZ.out.1⟩
   ·rw[show decide ((L.getD r.pos 0).toNat=10)=false from by simpa using hse]at HSe
    have hne:endL L r=false:=by
     unfold endL
     rw[at_drop,show decide ((L.getD r.pos 0).toNat=10)=false from by simpa using hse,show decide (r.pos=L.length)=false from by simpa using hen]
     rfl
    have hrl:r.pos<L.length:=by omega
    have hk:=HR.out.2.2.1
    have hcnt:=hk.cnt
    have h31:=hk.i31
    have HRf:Hid (∀ n,Calls Tryz.prog 239 #[.pointer (some ⟨P,0,none⟩),.int .i64 i] (wr.drewN n) fun e w'=>RefP (refu L r i) r.pos e∧TS B P L tv2 iv2 w' r∧Below B w w'):=fun n=>
     (refuse_any (HR.out.1.drewN n) hL hrl i (List.length_pos_iff.2 hk.ins.ne) (by omega) (H.out.2.2.1.low H.out.2.2.2 (below_drewN HR.out.2.1 n))).mono fun e w' ⟨a,b⟩=>⟨a,(HR.out.1.drewN n).up b,(below_drewN HR.out.2.1 n).trans (b.mono (by have:=(HR.out.1.drewN n).lt;have:=HR.out.1.hB;omega))⟩
    go_wp2_with fail
    refine(HEd.out 0).mono ?_
    rintro e w' ⟨rfl,n0,rfl⟩
    go_wp2_with fail
    refine(HSe.out n0).mono ?_
    rintro e w' ⟨rfl,n,rfl⟩
    go_wp2_with fail
    refine(HRf.out n).mono ?_
    rintro e w2 ⟨hrf,hts2,hb2⟩
    by_cases hr0:refu L r i=0
    ·obtain rfl:=hrf.1 hr0
     obtain⟨r1,r2,r3,r4,r5⟩:=refu_zero hr0
     obtain⟨ca,cb,cc,cd,ce⟩:=come_ok hk.ins i
     have hrp2:=hk.pos
     have ho30:=hk.o30
     have HCo:Hid (Calls Tryz.prog 214 #[.pointer (some ⟨P,0,none⟩),.int .i64 i] w2 fun e w'=>e= .returned (.tuple #[])∧∃ tv' iv',TS B P L tv' iv' w' (r.come i)∧Below B w2 w'):=come_any hts2 hk.ins i (by omega)
     have HTo:Hid (∀ (W:World) (tv3 iv3:Value),TS B P L tv3 iv3 W (r.come i)→Calls Tryz.prog 240 #[.pointer (some ⟨P,0,none⟩)] W fun e w'=>StP B P L W (tok1 L (r.come i)) e w'):=fun W tv3 iv3 hW=>token_any hW hL (by rw[ca];exact hrl) (by omega) (by rw[cb];omega) (by rw[ca];exact r1) (by rw[ca];exact r3) (by rw[ca,cb];exact r2)
     have HBad:Hid (∀ x,tok1 L (r.come i)= .error x→lineF L p= .error x):=fun x hx=>HErr.out _ (HR.out.2.2.2.2.trans (toks_bad HR.out.2.2.2.1 hne hr0 hx))
     have HGo:Hid (∀ q,tok1 L (r.come i)= .ok q→toksF L (L.length+1) i0 p0=toksF L (f-1) (q.skip L).top (q.skip L)∧SpOk L (q.skip L) 1∧r.pos<(q.skip L).pos∧q.pos≤L.length):=fun q hx=>⟨HR.out.2.2.2.2.trans (toks_go HR.out.2.2.2.1 hne hr0 hx),(turn_ok hk hrl hr0 hx).1,(turn_ok hk hrl hr0 hx).2,(tok1_ok hx (by rw[ca];exact hrl) (by rw[ca];exact r1) (by rw[ca,cb];intro ho;have:=r4 ho;omega) (by rw[cb];exact ho30)).2.1⟩
     have HB2:Hid (Below B w w2):=hb2
     clear r1 r2 r3 r4 r5 ca cb cc cd ce hts2 hb2 hr0 hrf hne hcnt h31 hk hen hse HRf HSe HEd
     generalize r.come i=rc at *
     go_wp2_with fail
     refine HCo.out.mono ?_
     rintro e w3 ⟨rfl,tv3,iv3,hts3,hb3⟩
     have HTo3:Hid (Calls Tryz.prog 240 #[.pointer (some ⟨P,0,none⟩)] w3 fun e w'=>StP B P L w3 (tok1 L rc) e w'):=HTo.out w3 tv3 iv3 hts3
     have HB3:Hid (Below B w w3):=HB2.out.trans hb3
     clear hts3 hb3 HTo HCo HB2
     cases htk:tok1 L rc with
     |error x=>
      obtain⟨k0,y⟩:=x
      have HRV:Hid (lineF L p= .error (k0,y)):=HBad.out _ htk
      rw[htk]at HTo3
      clear htk HBad HGo
      go_wp2_with fail
      refine HTo3.out.mono ?_
      rintro e w4 ⟨h1,-,hb4⟩
      obtain rfl:=h1 k0 y rfl
      go_wp2
      refine⟨rfl,fun k z hz=>?_,fun q hq=>?_,HB3.out.trans hb4⟩
      ·rw[HRV.out]at hz;cases hz;rfl
      ·rw[HRV.out]at hq;cases hq
     |ok q=>
      have HG:=HGo.out q htk
      have HGq:Hid (toksF L (L.length+1) i0 p0=toksF L (f-1) (q.skip L).top (q.skip L)∧SpOk L (q.skip L) 1∧r.pos<(q.skip L).pos∧q.pos≤L.length):=HG
      rw[htk]at HTo3
      clear htk HBad HGo HG
      go_wp2_with fail
      refine HTo3.out.mono ?_
      rintro e w4 ⟨-,h2,hb4⟩
      obtain⟨rfl,tv4,iv4,hts4⟩:=h2 q rfl
      have HSk:Hid (Calls Tryz.prog 237 #[.pointer (some ⟨P,0,none⟩)] w4 fun e w'=>e= .returned (.tuple #[])∧TS B P L tv4 iv4 w' (q.skip L)∧Below B w w'):=(skip_any hts4 hL HGq.out.2.2.2).mono fun e w' ⟨a,b,c,_⟩=>⟨a,b,(HB3.out.trans hb4).trans c⟩
      clear h2 hts4 hb4 HTo3 HB3
      go_wp2_with fail
      refine HSk.out.mono ?_
      rintro e w5 ⟨rfl,hts5,hb5⟩
      have HIn:Hid (Calls Tryz.prog 241 #[.pointer (some ⟨P,0,none⟩)] w5 fun e w'=>e= .returned (.int .i64 (q.skip L).top)∧∃ n,w'=w5.drewN n):=in_any hts5 (List.length_pos_iff.2 HGq.out.2.1.ins.ne) (by have:=HGq.out.2.1.i31;omega)
      have H5:Hid (TS B P L tv4 iv4 w5 (q.skip L)∧Below B w w5):=⟨hts5,hb5⟩
      clear hts5 hb5 HSk
      go_wp2_with fail
      refine HIn.out.mono ?_
      rintro e w' ⟨rfl,m,rfl⟩
      go_wp2
      refine⟨⟨(q.skip L).top,f-1,q.skip L,tv4,iv4,rfl,HGq.out.2.1.pos,H5.out.1.drewN m,below_drewN H5.out.2 m,HGq.out.2.1,?_,HGq.out.1⟩,?_⟩
      ·have:=HR.out.2.2.2.1;have:=HGq.out.2.2.1;have:=HGq.out.2.1.pos;omega
      ·rw[(H5.out.1.drewN m).posOf,HR.out.1.posOf]
       have:=HGq.out.2.2.1;have:=HGq.out.2.1.pos;omega
    ·obtain rfl:=hrf.2 hr0
     have HRV:Hid (lineF L p= .error (refu L r i,r.pos)):=HErr.out _ (HR.out.2.2.2.2.trans (toks_ref HR.out.2.2.2.1 hne hr0))
     go_wp2
     refine⟨rfl,fun k z hz=>?_,fun q hq=>?_,hb2⟩
     ·rw[HRV.out]at hz;cases hz;rfl
     ·rw[HRV.out]at hq;cases hq
theorem toksF_ok (L:List UInt8):∀ (f i:Nat) (p q:Sp),SpOk L p 1→toksF L f i p= .ok q→SpOk L q 1∧p.pos≤q.pos:=by
 intro f
 induction f with
 |zero=>intro i p q _ h;cases h
 |succ f ih=>
  intro i p q hk h
  unfold toksF at h
  split at h
  ·cases h;exact⟨hk,Nat.le_refl _⟩
  rename_i he
  split at h
  ·cases h
  rename_i hr
  split at h
  ·cases h
  rename_i t ht
  have hp:p.pos<L.length:=by
   have:=hk.pos
   rcases Nat.lt_or_ge p.pos L.length with h1|h1
   ·exact h1
   ·exfalso;apply he;unfold endL
    rw[show decide (p.pos=L.length)=true from by simp;omega];rfl
  have hr0:refu L p i=0:=by
   rcases Nat.eq_zero_or_pos (refu L p i)with e|e
   ·exact e
   ·exact absurd (by omega) hr
  obtain⟨a,b⟩:=turn_ok hk hp hr0 ht
  obtain⟨c,d⟩:=ih _ _ _ a h
  exact⟨c,by omega⟩
theorem lineF_ok {L:List UInt8}{p q:Sp}(hk:SpOk L p 1)(h:lineF L p= .ok q):SpOk L q 2∧p.pos≤q.pos:=by
 have hs:=skip_ok (L:=L) hk.pos
 have hk1:SpOk L (p.skip L) 1:=⟨hs.2,hk.ins.of rfl,hk.i31,hk.o30,by show p.toks.length+p.ins.length≤4*(p.skip L).pos+1;have:=hk.cnt;omega⟩
 unfold lineF at h
 split at h
 ·cases h
 rename_i r hr
 obtain⟨a,b⟩:=toksF_ok L _ _ _ _ hk1 hr
 split at h
 ·cases h
 split at h
 ·cases h
  refine⟨⟨a.pos,a.ins.of rfl,a.i31,a.o30,?_⟩,by show p.pos≤r.pos;omega⟩
  show(r.toks++[_]).length+r.ins.length≤4*r.pos+2
  have:=a.cnt
  simp only[List.length_append,List.length_singleton]
  omega
 ·cases h
  exact⟨⟨a.pos,a.ins,a.i31,a.o30,by have:=a.cnt;omega⟩,by omega⟩
theorem lines_end {L:List UInt8}{f:Nat}{r:Sp}(hf:0<f)(h:r.pos=L.length):linesF L f r= .ok (r.come 0):=by
 cases f with
 |zero=>omega
 |succ f=>unfold linesF;rw[if_pos h]
theorem lines_bad {L:List UInt8}{f:Nat}{r:Sp}{x:Ft}(hf:0<f)(h:¬r.pos=L.length)(h2:lineF L r= .error x):linesF L f r= .error x:=by
 cases f with
 |zero=>omega
 |succ f=>unfold linesF;rw[if_neg h,h2]
theorem lines_last {L:List UInt8}{f:Nat}{r q:Sp}(hf:0<f)(h:¬r.pos=L.length)(h2:lineF L r= .ok q)(h3:q.pos=L.length):linesF L f r=linesF L f q:=by
 rw[lines_end hf h3]
 cases f with
 |zero=>omega
 |succ f=>unfold linesF;rw[if_neg h,h2];simp only;rw[if_pos h3]
theorem lines_go {L:List UInt8}{f:Nat}{r q:Sp}(hf:0<f)(h:¬r.pos=L.length)(h2:lineF L r= .ok q)(h3:¬q.pos=L.length):linesF L f r=linesF L (f-1) {q with pos:=q.pos+1}:=by
 cases f with
 |zero=>omega
 |succ f=>
  conv=>lhs;unfold linesF
  rw[if_neg h,h2]
  simp only
  rw[if_neg h3]
  rfl
def LnI (B P:Nat)(L:List UInt8)(w wr:World)(p r:Sp)(tv iv:Value)(f:Nat):Prop:=
 TS B P L tv iv wr r∧Below B w wr∧SpOk L r 2∧(r.pos<L.length→SpOk L r 1)∧L.length-r.pos<f∧linesF L (L.length+1) p=linesF L f r
theorem lines_any {B P:Nat}{L:List UInt8}{tv iv:Value}{w:World}{p:Sp}(h:TS B P L tv iv w p)(hL:L.length≤6000)(hk:SpOk L p 1)(hg:7<B)(hr:ErrR w):
  Calls Tryz.prog 174 #[.pointer (some ⟨P,0,none⟩)] w fun e w'=>StP B P L w (linesF L (L.length+1) p) e w':=by
 have H:Hid (ErrR w∧7<B):=⟨hr,hg⟩
 have H1:Hid (LnI B P L w w p p tv iv (L.length+1)):=⟨h,Below.refl B w,⟨hk.pos,hk.ins,hk.i31,hk.o30,by have:=hk.cnt;omega⟩,fun _=>hk,by omega,rfl⟩
 have hp:=hk.pos
 clear h hk hg hr
 go_enter Tryz.func174,Tryz.ntmps174
 go_wp2
 go_loopw [] (fun wr=>∃ (f:Nat) (r:Sp) (tv2 iv2:Value),r.pos≤L.length∧Hid (LnI B P L w wr p r tv2 iv2 f)) (fun wr=>L.length-posOf P wr)
 case atStart=>exact⟨_,_,_,_,hp,H1⟩
 case round=>
  obtain⟨f,r,tv2,iv2,hrp,HR⟩:=hrel
  clear H1
  have HEd:Hid (∀ (W:World) (q:Sp) (t v:Value),TS B P L t v W q→Calls Tryz.prog 212 #[.pointer (some ⟨P,0,none⟩)] W fun e w'=>e= .returned (.bool (decide (q.pos=L.length)))∧∃ m,w'=W.drewN m):=fun W q t v hW=>ended_any hW
  by_cases hen:r.pos=L.length
  ·have HEd0:Hid (Calls Tryz.prog 212 #[.pointer (some ⟨P,0,none⟩)] wr fun e w'=>e= .returned (.bool true)∧∃ m,w'=wr.drewN m):=by
    have:=HEd.out wr r _ _ HR.out.1
    rwa [show decide (r.pos=L.length)=true from by simpa using hen]at this
   have HRV:Hid (linesF L (L.length+1) p= .ok (r.come 0)):=HR.out.2.2.2.2.2.trans (lines_end (by have:=HR.out.2.2.2.2.1;omega) hen)
   have HCo:Hid (∀ n,Calls Tryz.prog 214 #[.pointer (some ⟨P,0,none⟩),.int .i64 0] (wr.drewN n) fun e w'=>e= .returned (.tuple #[])∧∃ tv' iv',TS B P L tv' iv' w' (r.come 0)∧Below B (wr.drewN n) w'):=fun n=>come_any (HR.out.1.drewN n) HR.out.2.2.1.ins 0 (by have:=HR.out.2.2.1.cnt;have:=HR.out.2.2.1.pos;omega)
   clear hen HEd
   go_wp2_with fail
   refine HEd0.out.mono ?_
   rintro e w' ⟨rfl,n,rfl⟩
   go_wp2_with fail
   refine(HCo.out n).mono ?_
   rintro e w' ⟨rfl,tv3,iv3,hts3,hb3⟩
   have H3:Hid (TS B P L tv3 iv3 w' (r.come 0)∧Below B w w'):=⟨hts3,(below_drewN HR.out.2.1 n).trans hb3⟩
   clear hts3 hb3
   go_wp2
   go_end0
   refine⟨fun k z hz=>?_,fun q hq=>?_,H3.out.2⟩
   ·rw[HRV.out]at hz;cases hz
   ·rw[HRV.out]at hq;cases hq;exact⟨rfl,_,_,H3.out.1⟩
  ·have hrl:r.pos<L.length:=by omega
   have HEd0:Hid (Calls Tryz.prog 212 #[.pointer (some ⟨P,0,none⟩)] wr fun e w'=>e= .returned (.bool false)∧∃ m,w'=wr.drewN m):=by
    have:=HEd.out wr r _ _ HR.out.1
    rwa [show decide (r.pos=L.length)=false from by simpa using hen]at this
   have hk:=HR.out.2.2.2.1 hrl
   have HLi:Hid (∀ n,Calls Tryz.prog 213 #[.pointer (some ⟨P,0,none⟩)] (wr.drewN n) fun e w'=>StP B P L (wr.drewN n) (lineF L r) e w'):=fun n=>line_any (HR.out.1.drewN n) hL hk H.out.2 (H.out.1.low H.out.2 (below_drewN HR.out.2.1 n))
   have hf0:0<f:=by have:=HR.out.2.2.2.2.1;omega
   go_wp2_with fail
   refine HEd0.out.mono ?_
   rintro e w' ⟨rfl,n,rfl⟩
   cases hli:lineF L r with
   |error x=>
    obtain⟨k0,y⟩:=x
    have HRV:Hid (linesF L (L.length+1) p= .error (k0,y)):=HR.out.2.2.2.2.2.trans (lines_bad hf0 hen hli)
    rw[hli]at HLi
    clear hli
    go_wp2_with fail
    refine(HLi.out n).mono ?_
    rintro e w4 ⟨h1,-,hb4⟩
    obtain rfl:=h1 k0 y rfl
    have HB4:Hid (Below B w w4):=(below_drewN HR.out.2.1 n).trans hb4
    clear hb4 h1
    go_wp2
    refine⟨rfl,fun k z hz=>?_,fun q hq=>?_,HB4.out⟩
    ·rw[HRV.out]at hz;cases hz;rfl
    ·rw[HRV.out]at hq;cases hq
   |ok q=>
    obtain⟨hq2,hqp⟩:=lineF_ok hk hli
    have hql:=hq2.pos
    have HLa:Hid (q.pos=L.length→linesF L (L.length+1) p=linesF L f q):=fun h3=>HR.out.2.2.2.2.2.trans (lines_last hf0 hen hli h3)
    have HGo:Hid (¬q.pos=L.length→linesF L (L.length+1) p=linesF L (f-1) {q with pos:=q.pos+1}):=fun h3=>HR.out.2.2.2.2.2.trans (lines_go hf0 hen hli h3)
    have HQ:Hid (SpOk L q 2):=hq2
    rw[hli]at HLi
    clear hli hk hq2
    go_wp2_with fail
    refine(HLi.out n).mono ?_
    rintro e w4 ⟨-,h2,hb4⟩
    obtain⟨rfl,tv4,iv4,hts4⟩:=h2 q rfl
    have H4:Hid (TS B P L tv4 iv4 w4 q∧Below B w w4):=⟨hts4,(below_drewN HR.out.2.1 n).trans hb4⟩
    clear h2 hb4 hts4 HLi HEd0
    by_cases hq:q.pos=L.length
    ·have HEd1:Hid (Calls Tryz.prog 212 #[.pointer (some ⟨P,0,none⟩)] w4 fun e w'=>e= .returned (.bool true)∧∃ m,w'=w4.drewN m):=by
      have:=HEd.out w4 q _ _ H4.out.1
      rwa [show decide (q.pos=L.length)=true from by simpa using hq]at this
     clear HEd
     go_wp2_with fail
     refine HEd1.out.mono ?_
     rintro e w' ⟨rfl,m,rfl⟩
     go_wp2
     refine⟨⟨f,q,tv4,iv4,hql,H4.out.1.drewN m,below_drewN H4.out.2 m,HQ.out,fun hh=>by omega,by omega,HLa.out hq⟩,?_⟩
     rw[(H4.out.1.drewN m).posOf,HR.out.1.posOf]
     omega
    ·have HEd1:Hid (Calls Tryz.prog 212 #[.pointer (some ⟨P,0,none⟩)] w4 fun e w'=>e= .returned (.bool false)∧∃ m,w'=w4.drewN m):=by
      have:=HEd.out w4 q _ _ H4.out.1
      rwa [show decide (q.pos=L.length)=false from by simpa using hq]at this
     have HGo':Hid (linesF L (L.length+1) p=linesF L (f-1) {q with pos:=q.pos+1}):=HGo.out hq
     have hfr:=HR.out.2.2.2.2.1
     clear HEd HLa HGo
     go_wp2_with fail
     refine HEd1.out.mono ?_
     rintro e w' ⟨rfl,m,rfl⟩
     have d1:=(H4.out.1.drewN m).c1
     have f1:=(H4.out.1.drewN m).fz 1
     have hqi:(q.pos:Int)<(L.length:Int):=by omega
     have hLi:(L.length:Int)≤6000:=by omega
     obtain⟨y,hy⟩:∃ y,y=q.pos+1:=⟨_,rfl⟩
     have hyi:(q.pos:Int)+1=(y:Int):=by omega
     have hwr:IntKind.i64.wrap (y:Int)=(y:Int):=by rw[IntKind.wrap_i64];omega
     have HS5:Hid (TS B P L tv4 iv4 ((w4.drewN m).setCell ⟨P,1,none⟩ (.int .i64 (y:Int))) {q with pos:=y}):=(H4.out.1.drewN m).setPos y (fun g=>rfl)
     have HB5:Hid (Below B w ((w4.drewN m).setCell ⟨P,1,none⟩ (.int .i64 (y:Int)))):=(below_drewN H4.out.2 m).setCell (p:=⟨P,1,none⟩) H4.out.1.hB _
     have HY:Hid (y=q.pos+1):=hy
     clear hy hq hfr
     go_wp2
     have hy:=HY.out
     have hfr:=HR.out.2.2.2.2.1
     refine⟨⟨f-1,{q with pos:=y},tv4,iv4,by show y≤_;omega,HS5.out,HB5.out,?_,fun _=>?_,by show L.length-y<_;omega,by rw[hy];exact HGo'.out⟩,?_⟩
     ·exact⟨by show y≤_;omega,HQ.out.ins.of rfl,HQ.out.i31,HQ.out.o30,by show q.toks.length+q.ins.length≤4*y+2;have:=HQ.out.cnt;omega⟩
     ·exact⟨by show y≤_;omega,HQ.out.ins.of rfl,HQ.out.i31,HQ.out.o30,by show q.toks.length+q.ins.length≤4*y+1;have:=HQ.out.cnt;omega⟩
     ·rw[HS5.out.posOf,HR.out.1.posOf]
      show L.length-y<_
      omega
end Go.Proofs.YthfgpkdbclogpaaGreatDoor
