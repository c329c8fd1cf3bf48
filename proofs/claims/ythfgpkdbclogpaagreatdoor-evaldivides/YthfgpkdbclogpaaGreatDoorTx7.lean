/- 7. -/
import Derived.Test.YthfgpkdbclogpaaGreatDoorTx4
set_option maxHeartbeats 40000000
set_option maxRecDepth 100000
namespace Go.Proofs.YthfgpkdbclogpaaGreatDoor
open Go.RowKit Go.Shelf
theorem ics_get (l:List Nat)(j:Nat)(hj:j<l.length):(ics l)[j]? =some (.int .i64 (l[j]:Nat)):=by simp[ics,hj]
def IdxP (b:Bool)(e:Ending):Prop:=∃ z:Int,(b=false→z=-1)∧(b=true→0≤z)∧e= .returned (.int .i64 z)
theorem contains_any (g cap:Nat)(l:List Nat)(x:Nat)(W:World)(h0:0<l.length)(hl:l.length≤1000000)(hc:∀ j (hj:j<l.length),W.cell? ⟨g,j,none⟩=some (.int .i64 (l[j]:Nat)))(b:Bool)(hb:b=true↔x∈l):
  Calls Tryz.prog 272 #[.slice (some ⟨g,0,none⟩) l.length cap,.int .i64 x] W fun e w'=>e= .returned (.bool b)∧w'=W:=by
 have HC:Hid (∀ j (hj:j<l.length),W.cell? ⟨g,j,none⟩=some (.int .i64 (l[j]:Nat))):=hc
 have HB:Hid (b=true↔x∈l):=hb
 have HI:Hid (Calls Tryz.prog 295 #[.slice (some ⟨g,0,none⟩) l.length cap,.int .i64 x] W fun e w'=>IdxP b e∧w'=W):=by
  clear hc hb
  go_enter Tryz.func295,Tryz.ntmps295
  go_wp2
  go_loop [8] (fun i=>∃ k:Nat,k≤l.length∧i= .int .i64 k∧Hid (x∉l.take k)) (fun i=>l.length-(intOf i).toNat)
  case atStart=>exact⟨0,Nat.zero_le _,rfl,by show _∉_;simp⟩
  case round=>
   obtain⟨k,hk,rfl,HK⟩:=hrel
   by_cases hlt:k<l.length
   ·have hki:(k:Int)<(l.length:Int):=by omega
    have ck:=HC.out k hlt
    by_cases he:x=l[k]
    ·have hq:((x:Int)==(l[k]:Int))=true:=by simp[he]
     have HBT:Hid (b=true):=HB.out.2 (by rw[he];exact List.getElem_mem hlt)
     generalize l[k]=y at *
     clear he
     go_wp2
     go_ret
     exact⟨⟨(k:Int),fun h=>(by rw[HBT.out]at h;cases h),fun _=>by omega,rfl⟩,rfl⟩
    ·have hq:((x:Int)==(l[k]:Int))=false:=beq_eq_false_iff_ne.2 (by omega)
     have HN:Hid (x∉l.take (k+1)):=by
      show _∉_
      rw[List.take_succ_eq_append_getElem hlt,List.mem_append]
      rintro(h|h)
      ·exact HK.out h
      ·simp at h;exact he h
     generalize l[k]=y at *
     clear he
     go_wp2
     refine⟨⟨k+1,by omega,by go_num,HN⟩,by simp[intOf];omega⟩
   ·obtain rfl:k=l.length:=by omega
    have HBF:Hid (¬b=true):=fun h=>by
     have:=HK.out
     rw[List.take_length]at this
     exact this (HB.out.1 h)
    go_wp2
    go_ret
    exact⟨⟨-1,fun _=>rfl,fun h=>absurd h HBF.out,rfl⟩,rfl⟩
 clear hc hb HC
 go_enter Tryz.func272,Tryz.ntmps272
 go_wp2_with fail
 refine HI.out.mono ?_
 rintro e w' ⟨⟨z,hz1,hz2,rfl⟩,rfl⟩
 cases b with
 |true=>
  have hz3:=hz2 rfl
  clear hz1 hz2
  go_wp2
  go_ret
  exact⟨ret_b (by simp),rfl⟩
 |false=>
  have hz3:z=-1:=hz1 rfl
  subst hz3
  clear hz1 hz2
  go_wp2
  go_ret
  exact⟨rfl,rfl⟩
theorem rv0 {b1 b2 bm b3 b4 b5:Bool}{oo i tp nn R:Nat}(H:(R=if b1=false∨(b2=true∧oo=0)then 1 else if i<tp∧bm=false then 4 else if b3=true∧b4=true then 3 else if(b5=true∧oo=30)∨(tp<i∧30<nn)then 2 else 0))(c1:(!b1)=false)(c2:¬b2=true∨((oo:Int)==0)=false)(c3:¬i<tp∨(!bm)=false)(c4:¬b3=true∨b4=false)(c5:¬b5=true∨((oo:Int)==30)=false)(c6:¬tp<i∨(nn:Int)≤30):R=0:=by
 rw[H,if_neg (show ¬(b1=false∨(b2=true∧oo=0))from by rintro(h|⟨h,h'⟩);(· rw[h]at c1;cases c1);rcases c2 with c|c;(· exact c h);rw[h']at c;cases c),if_neg (show ¬(i<tp∧bm=false)from by rintro⟨h,h'⟩;rcases c3 with c|c;(· exact c h);rw[h']at c;cases c),if_neg (show ¬(b3=true∧b4=true)from by rintro⟨h,h'⟩;rcases c4 with c|c;(· exact c h);rw[h']at c;cases c),if_neg (show ¬((b5=true∧oo=30)∨(tp<i∧30<nn))from by rintro(⟨h,h'⟩|⟨h,h'⟩);(· rcases c5 with c|c;(· exact c h);rw[h']at c;cases c);rcases c6 with c|c;(· exact c h);omega)]
theorem rv1a {b1 b2 bm b3 b4 b5:Bool}{oo i tp nn R:Nat}(H:(R=if b1=false∨(b2=true∧oo=0)then 1 else if i<tp∧bm=false then 4 else if b3=true∧b4=true then 3 else if(b5=true∧oo=30)∨(tp<i∧30<nn)then 2 else 0))(h:(!b1)=true):R=1:=by
 rw[H,if_pos (Or.inl (by simpa using h))]
theorem rv1b {b1 b2 bm b3 b4 b5:Bool}{oo i tp nn R:Nat}(H:(R=if b1=false∨(b2=true∧oo=0)then 1 else if i<tp∧bm=false then 4 else if b3=true∧b4=true then 3 else if(b5=true∧oo=30)∨(tp<i∧30<nn)then 2 else 0))(h:b2=true)(h':((oo:Int)==0)=true):R=1:=by
 rw[H,if_pos (Or.inr ⟨h,by simpa using h'⟩)]
theorem rv4 {b1 b2 bm b3 b4 b5:Bool}{oo i tp nn R:Nat}(H:(R=if b1=false∨(b2=true∧oo=0)then 1 else if i<tp∧bm=false then 4 else if b3=true∧b4=true then 3 else if(b5=true∧oo=30)∨(tp<i∧30<nn)then 2 else 0))(c1:(!b1)=false)(c2:¬b2=true∨((oo:Int)==0)=false)(h:i<tp)(h':(!bm)=true):R=4:=by
 rw[H,if_neg (show ¬(b1=false∨(b2=true∧oo=0))from by rintro(h|⟨h,h'⟩);(· rw[h]at c1;cases c1);rcases c2 with c|c;(· exact c h);rw[h']at c;cases c),if_pos ⟨h,by simpa using h'⟩]
theorem rv3 {b1 b2 bm b3 b4 b5:Bool}{oo i tp nn R:Nat}(H:(R=if b1=false∨(b2=true∧oo=0)then 1 else if i<tp∧bm=false then 4 else if b3=true∧b4=true then 3 else if(b5=true∧oo=30)∨(tp<i∧30<nn)then 2 else 0))(c1:(!b1)=false)(c2:¬b2=true∨((oo:Int)==0)=false)(c3:¬i<tp∨(!bm)=false)(h:b3=true)(h':b4=true):R=3:=by
 rw[H,if_neg (show ¬(b1=false∨(b2=true∧oo=0))from by rintro(h|⟨h,h'⟩);(· rw[h]at c1;cases c1);rcases c2 with c|c;(· exact c h);rw[h']at c;cases c),if_neg (show ¬(i<tp∧bm=false)from by rintro⟨h,h'⟩;rcases c3 with c|c;(· exact c h);rw[h']at c;cases c),if_pos ⟨h,h'⟩]
theorem rv2a {b1 b2 bm b3 b4 b5:Bool}{oo i tp nn R:Nat}(H:(R=if b1=false∨(b2=true∧oo=0)then 1 else if i<tp∧bm=false then 4 else if b3=true∧b4=true then 3 else if(b5=true∧oo=30)∨(tp<i∧30<nn)then 2 else 0))(c1:(!b1)=false)(c2:¬b2=true∨((oo:Int)==0)=false)(c3:¬i<tp∨(!bm)=false)(c4:¬b3=true∨b4=false)(h:b5=true)(h':((oo:Int)==30)=true):R=2:=by
 rw[H,if_neg (show ¬(b1=false∨(b2=true∧oo=0))from by rintro(h|⟨h,h'⟩);(· rw[h]at c1;cases c1);rcases c2 with c|c;(· exact c h);rw[h']at c;cases c),if_neg (show ¬(i<tp∧bm=false)from by rintro⟨h,h'⟩;rcases c3 with c|c;(· exact c h);rw[h']at c;cases c),if_neg (show ¬(b3=true∧b4=true)from by rintro⟨h,h'⟩;rcases c4 with c|c;(· exact c h);rw[h']at c;cases c),if_pos (Or.inl ⟨h,by have h9:(oo:Int)=30:=(by simpa using h');omega⟩)]
theorem rv2b {b1 b2 bm b3 b4 b5:Bool}{oo i tp nn R:Nat}(H:(R=if b1=false∨(b2=true∧oo=0)then 1 else if i<tp∧bm=false then 4 else if b3=true∧b4=true then 3 else if(b5=true∧oo=30)∨(tp<i∧30<nn)then 2 else 0))(c1:(!b1)=false)(c2:¬b2=true∨((oo:Int)==0)=false)(c3:¬i<tp∨(!bm)=false)(c4:¬b3=true∨b4=false)(h:tp<i)(h':(30:Int)<(nn:Int)):R=2:=by
 rw[H,if_neg (show ¬(b1=false∨(b2=true∧oo=0))from by rintro(h|⟨h,h'⟩);(· rw[h]at c1;cases c1);rcases c2 with c|c;(· exact c h);rw[h']at c;cases c),if_neg (show ¬(i<tp∧bm=false)from by rintro⟨h,h'⟩;rcases c3 with c|c;(· exact c h);rw[h']at c;cases c),if_neg (show ¬(b3=true∧b4=true)from by rintro⟨h,h'⟩;rcases c4 with c|c;(· exact c h);rw[h']at c;cases c),if_pos (Or.inr ⟨h,by omega⟩)]
def RefP (r x:Nat)(e:Ending):Prop:=(r=0→e= .returned (.tuple #[]))∧(r≠0→e=PF r x)
theorem refuse_any {B P:Nat}{L:List UInt8}{tv iv:Value}{w:World}{p:Sp}(h:TS B P L tv iv w p)(hL:L.length≤6000)(hp:p.pos<L.length)(i:Nat)(hn0:0<p.ins.length)(hn:p.ins.length≤1000)(hr:ErrR w):
  Calls Tryz.prog 239 #[.pointer (some ⟨P,0,none⟩),.int .i64 i] w fun e w'=>RefP (refu L p i) p.pos e∧Below w.heap.size w w':=by
 have hrl:0<(L.drop p.pos).length:=by rw[List.length_drop];omega
 have hrl2:(L.drop p.pos).length≤1000000:=by rw[List.length_drop];omega
 have HRe:Hid (∀ W,Below w.heap.size w W→Calls Tryz.prog 270 #[.pointer (some ⟨P,0,none⟩)] W fun e w'=>e= .returned (.string (mkB (L.drop p.pos)))∧Below w.heap.size w w'):=fun W hW=>(rest_any (h.up hW) (by omega)).mono fun e w' ⟨a,n,b⟩=>⟨a,by rw[b];exact below_drewN hW n⟩
 have HBe:Hid (∀ W,Calls Tryz.prog 269 #[.string (mkB (L.drop p.pos))] W fun e w'=>e= .returned (.bool (beg (L.drop p.pos)))∧w'=W):=fun W=>begins_any _ W hrl hrl2
 have HCl:Hid (∀ W,Calls Tryz.prog 271 #[.int .u8 (L.getD p.pos 0).toNat] W fun e w'=>e= .returned (.bool (isCls (L.getD p.pos 0)))∧w'=W):=fun W=>isClosing_any _ W
 have HOp:Hid (∀ W,Calls Tryz.prog 275 #[.int .u8 (L.getD p.pos 0).toNat] W fun e w'=>e= .returned (.bool (isOpn (L.getD p.pos 0)))∧w'=W):=fun W=>isOpening_any _ W
 have HDg:Hid (∀ W,Calls Tryz.prog 273 #[.int .u8 (L.getD p.pos 0).toNat] W fun e w'=>e= .returned (.bool (isDg (L.getD p.pos 0)))∧w'=W):=fun W=>isDigit_any _ W
 have HIn:Hid (∀ W,Below w.heap.size w W→Calls Tryz.prog 241 #[.pointer (some ⟨P,0,none⟩)] W fun e w'=>e= .returned (.int .i64 p.top)∧Below w.heap.size w w'):=fun W hW=>(in_any (h.up hW) hn0 (by omega)).mono fun e w' ⟨a,n,b⟩=>⟨a,by rw[b];exact below_drewN hW n⟩
 have HNI:Hid (isDg (L.getD p.pos 0)=true→∀ W,Below w.heap.size w W→Calls Tryz.prog 274 #[.string (mkB (L.drop p.pos))] W fun e w'=>e= .returned (.bool (noInt (L.drop p.pos)))∧Below w.heap.size w w'):=fun hd W hW=>(isNoInt_any _ W hrl hrl2 (by rw[at_drop];exact hd) (hr.up hW)).mono fun e w' ⟨a,b⟩=>⟨a,hW.trans (b.mono hW.size)⟩
 have HGu:Hid (∀ W,Below w.heap.size w W→∀ k:Int,Calls Tryz.prog 242 #[.pointer (some ⟨P,0,none⟩),.int .i64 k] W fun e w'=>e=PF k p.pos∧w'=W):=fun W hW k=>giveUp_any (h.up hW) k
 obtain⟨g,cap,hv,hg1,hg2⟩:=h.oi.form hn0
 subst hv
 obtain⟨bm,hbm⟩:∃ bm:Bool,(bm=true↔i∈p.ins):=⟨decide (i∈p.ins),by simp⟩
 have HCo:Hid (∀ W,Below w.heap.size w W→Calls Tryz.prog 272 #[.slice (some ⟨g,0,none⟩) p.ins.length cap,.int .i64 i] W fun e w'=>e= .returned (.bool bm)∧w'=W):=fun W hW=>by
  have:=contains_any g cap p.ins.reverse i W (by simpa using hn0) (by simp;omega) (fun j hj=>(((h.up hW).oi.cellAt j (by simpa using hj))).trans (ics_get _ j hj)) bm (by rw[hbm];simp)
  simpa using this
 have HC:Hid (∀ W,Below w.heap.size w W→W.cell? ⟨P,0,none⟩=some (.string (mkB L))∧W.cell? ⟨P,1,none⟩=some (.int .i64 p.pos)∧W.cell? ⟨P,3,none⟩=some (.slice (some ⟨g,0,none⟩) p.ins.length cap)∧W.cell? ⟨P,4,none⟩=some (.int .i64 p.opn)):=fun W hW=>⟨(h.up hW).c0,(h.up hW).c1,(h.up hW).c3,(h.up hW).c4⟩
 have hru:refu L p i=if beg (L.drop p.pos)=false∨(isCls (L.getD p.pos 0)=true∧p.opn=0)then 1 else if i<p.top∧bm=false then 4 else if isDg (L.getD p.pos 0)=true∧noInt (L.drop p.pos)=true then 3 else if(isOpn (L.getD p.pos 0)=true∧p.opn=30)∨(p.top<i∧30<p.ins.length)then 2 else 0:=by
  unfold refu
  simp only[at_drop]
  have:(i∉p.ins)↔bm=false:=by rw[←hbm];simp
  simp only[this]
 obtain⟨R,hR⟩:∃ R,R=refu L p i:=⟨_,rfl⟩
 rw[←hR]
 rw[←hR]at hru
 have hsz:=mk_size L
 have hs0:p.pos<(mkB L).size:=by rw[hsz];exact hp
 have hg:=mk_get L p.pos hs0
 have hpi:(p.pos:Int)<(L.length:Int):=by omega
 have hk0:Below w.heap.size w w:=Below.refl _ _
 obtain⟨d0,d1,d3,d4⟩:=HC.out _ hk0
 generalize mkB (L.drop p.pos)=rs at *
 generalize beg (L.drop p.pos)=b1 at *
 generalize noInt (L.drop p.pos)=b4 at *
 generalize isCls (L.getD p.pos 0)=b2 at *
 generalize isDg (L.getD p.pos 0)=b3 at *
 generalize isOpn (L.getD p.pos 0)=b5 at *
 generalize L.getD p.pos 0=c0 at *
 generalize p.top=tp at *
 generalize p.ins.length=nn at *
 generalize p.opn=oo at *
 generalize p.pos=xx at *
 have HRU:Hid (R=if b1=false∨(b2=true∧oo=0)then 1 else if i<tp∧bm=false then 4 else if b3=true∧b4=true then 3 else if(b5=true∧oo=30)∨(tp<i∧30<nn)then 2 else 0):=hru
 clear h hr hbm hru hrl hrl2 hg1 hg2 hR
 go_enter Tryz.func239,Tryz.ntmps239
 go_wp2
 go_quiet (fail)
 have hk1:Below w.heap.size w (w.drewN nq):=below_drewN hk0 nq
 obtain⟨e0,e1,e3,e4⟩:=HC.out _ hk1
 go_wp2_with (first
  |(go_at_call 270;refine(HRe.out _ (by assumption)).mono ?_;rintro e w1 ⟨rfl,hkr⟩;obtain⟨r0,r1,r3,r4⟩:=HC.out _ hkr)
  |(go_at_call 269;refine(HBe.out _).mono ?_;rintro e w' ⟨rfl,rfl⟩)
  |(go_at_call 271;refine(HCl.out _).mono ?_;rintro e w' ⟨rfl,rfl⟩)
  |(go_at_call 275;refine(HOp.out _).mono ?_;rintro e w' ⟨rfl,rfl⟩)
  |(go_at_call 273;refine(HDg.out _).mono ?_;rintro e w' ⟨rfl,rfl⟩)
  |(go_at_call 241;refine(HIn.out _ (by assumption)).mono ?_;rintro e w2 ⟨rfl,hki⟩;obtain⟨s0,s1,s3,s4⟩:=HC.out _ hki)
  |(go_at_call 272;refine(HCo.out _ (by assumption)).mono ?_;rintro e w' ⟨rfl,rfl⟩)
  |(go_at_call 274;refine(HNI.out (by assumption) _ (by assumption)).mono ?_;rintro e w3 ⟨rfl,hkn⟩;obtain⟨t0,t1,t3,t4⟩:=HC.out _ hkn)
  |(go_at_call 242;refine(HGu.out _ (by assumption) _).mono ?_;rintro e w' ⟨rfl,rfl⟩)
  |fail)
 all_goals have HRV:=HRU.out
 all_goals clear HRU
 all_goals first
  |(exfalso;have h1:(!b1)=true:=(by assumption);have h2:(!b1)=false:=(by assumption);rw[h1]at h2;cases h2)
  |(have hR:R=0:=rv0 HRV (by assumption) (by first|exact Or.inl (by assumption)|exact Or.inr (by assumption)) (by first|exact Or.inl (by assumption)|exact Or.inr (by assumption)) (by first|exact Or.inl (by assumption)|exact Or.inr (by assumption)) (by first|exact Or.inl (by assumption)|exact Or.inr (by assumption)) (by first|exact Or.inl (by assumption)|exact Or.inr (by assumption));subst hR;go_end0;exact⟨⟨fun _=>rfl,fun h=>absurd rfl h⟩,by assumption⟩)
  |(have hR:R=_:=rv1a HRV (by assumption);subst hR;exact⟨rfl,⟨fun h=>(by cases h),fun _=>rfl⟩,by assumption⟩)
  |(have hR:R=_:=rv1b HRV (by assumption) (by assumption);subst hR;exact⟨rfl,⟨fun h=>(by cases h),fun _=>rfl⟩,by assumption⟩)
  |(have hR:R=_:=rv4 HRV (by assumption) (by first|exact Or.inl (by assumption)|exact Or.inr (by assumption)) (by assumption) (by assumption);subst hR;exact⟨rfl,⟨fun h=>(by cases h),fun _=>rfl⟩,by assumption⟩)
  |(have hR:R=_:=rv3 HRV (by assumption) (by first|exact Or.inl (by assumption)|exact Or.inr (by assumption)) (by first|exact Or.inl (by assumption)|exact Or.inr (by assumption)) (by assumption) (by assumption);subst hR;exact⟨rfl,⟨fun h=>(by cases h),fun _=>rfl⟩,by assumption⟩)
  |(have hR:R=_:=rv2a HRV (by assumption) (by first|exact Or.inl (by assumption)|exact Or.inr (by assumption)) (by first|exact Or.inl (by assumption)|exact Or.inr (by assumption)) (by first|exact Or.inl (by assumption)|exact Or.inr (by assumption)) (by assumption) (by assumption);subst hR;exact⟨rfl,⟨fun h=>(by cases h),fun _=>rfl⟩,by assumption⟩)
  |(have hR:R=_:=rv2b HRV (by assumption) (by first|exact Or.inl (by assumption)|exact Or.inr (by assumption)) (by first|exact Or.inl (by assumption)|exact Or.inr (by assumption)) (by first|exact Or.inl (by assumption)|exact Or.inr (by assumption)) (by assumption) (by assumption);subst hR;exact⟨rfl,⟨fun h=>(by cases h),fun _=>rfl⟩,by assumption⟩)
end Go.Proofs.YthfgpkdbclogpaaGreatDoor
