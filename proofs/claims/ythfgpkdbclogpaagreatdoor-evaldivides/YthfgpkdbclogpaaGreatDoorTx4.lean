/- 4. -/
import Derived.Test.YthfgpkdbclogpaaGreatDoorTx3
set_option maxHeartbeats 40000000
set_option maxRecDepth 100000
namespace Go.Proofs.YthfgpkdbclogpaaGreatDoor
open Go.RowKit Go.Shelf
theorem heap_al (w:World)(o:Obj)(g:Nat)(hg:g<w.heap.size):(w.alloc o).heap[g]? =w.heap[g]? :=((Below.refl w.heap.size w).alloc (Nat.le_refl _) o).block g hg
theorem add_any {B P:Nat}{L:List UInt8}{tv iv:Value}{w:World}{p:Sp}(h:TS B P L tv iv w p)(k:Nat)(hk:p.toks.length≤100000):
  Calls Tryz.prog 243 #[.pointer (some ⟨P,0,none⟩),.int .i64 k] w fun e w'=>e= .returned (.tuple #[])∧∃ tv',TS B P L tv' iv w' (p.add k)∧Below B w w':=by
 obtain⟨i0,hi,hz0,hz1,hz2⟩:=info_p infT
 have H:Hid (TS B P L tv iv w p):=h
 have c1:=h.c1
 have c2:=h.c2
 have hPl:=h.lt
 have hBl:B≤w.heap.size:=by have:=h.hB;omega
 have hadd:p.add k={p with toks:=p.toks++[⟨k,[],0,p.pos⟩]}:=rfl
 rw[hadd]
 have HNW:Hid (∀ (j:Nat) (u:Value),(tc ⟨k,[],0,p.pos⟩)[j]? =some u→((w.alloc (.cells #[.int .i64 k,.string ⟨#[]⟩,.int .i64 0,.int .i64 p.pos] 255)).drew).cell? ((⟨w.heap.size,0,none⟩:Addr).add j)=some u):=new_tok w ⟨k,[],0,p.pos⟩
 have hone:=tc_one ⟨k,[],0,p.pos⟩
 have hnl:(tc ⟨k,[],0,p.pos⟩).length=1*4:=rfl
 have q1:p.toks.length+1≤maxLen:=by unfold maxLen;omega
 have q2:(p.toks.length+1)*40≤140737488355328:=by omega
 have HOW:Hid (((w.alloc (.cells #[.int .i64 k,.string ⟨#[]⟩,.int .i64 0,.int .i64 p.pos] 255)).drew).ownsRow B 255 4 tv p.toks.length (tcs p.toks)):=h.ot.alloc _
 have q3:B≤((w.alloc (.cells #[.int .i64 k,.string ⟨#[]⟩,.int .i64 0,.int .i64 p.pos] 255)).drew).heap.size:=by show B≤(w.alloc _).heap.size;rw[World.size_alloc];omega
 have q4:((w.alloc (.cells #[.int .i64 k,.string ⟨#[]⟩,.int .i64 0,.int .i64 p.pos] 255)).drew).heap.size=w.heap.size+1:=by show(w.alloc _).heap.size=_;rw[World.size_alloc]
 have HPUT:Hid (∀ {w1 w':World} {g1 cap1:Nat},w1.ownsRow B 255 4 (.slice (some ⟨g1,0,none⟩) (p.toks.length+1) cap1) (p.toks.length+1) (tcs p.toks++tc ⟨k,[],0,p.pos⟩)→((w.alloc (.cells #[.int .i64 k,.string ⟨#[]⟩,.int .i64 0,.int .i64 p.pos] 255)).drew).grownBy w1 tv.ownBlock→(tv.ownBlock=some g1∨g1=w.heap.size+1)→(∀ g:Nat,w'.heap[g]? =(w1.setCell ⟨P,2,none⟩ (.slice (some ⟨g1,0,none⟩) (p.toks.length+1) cap1)).heap[g]?)→TS B P L (.slice (some ⟨g1,0,none⟩) (p.toks.length+1) cap1) iv w' {p with toks:=p.toks++[⟨k,[],0,p.pos⟩]}):=by
  intro w1 w' g1 cap1 a1 a2 a3 a4
  exact H.out.put ⟨k,[],0,p.pos⟩ (W:=(w.alloc _).drew) (fun g hg=>heap_al w _ g hg) (by rw[q4];omega) a1 a2 (by rw[q4];exact a3) a4
 have HP1:Hid (∀ {w1:World},((w.alloc (.cells #[.int .i64 k,.string ⟨#[]⟩,.int .i64 0,.int .i64 p.pos] 255)).drew).grownBy w1 tv.ownBlock→w1.cell? ⟨P,2,none⟩=some tv∧w1.frozen? ⟨P,2,none⟩=false∧Below B w w1):=by
  intro w1 hg
  have e1:w1.heap[P]? =w.heap[P]? :=(hg.block P (by rw[q4];omega) (fun e=>H.out.nt e.symm)).trans (heap_al w _ P hPl)
  exact⟨by rw[Lib.cell_of_heap (e1.trans H.out.blk)];rfl,Lib.frozen_of_heap (e1.trans H.out.blk) 2,(((Below.refl B w).alloc hBl _).drew).grown hg q3 (fun j hj=>(H.out.ot.lt j hj).1)⟩
 generalize tc ⟨k,[],0,p.pos⟩=news at *
 generalize tcs p.toks=ts at *
 generalize p.pos=x at *
 generalize p.toks.length=n at *
 clear h hadd hk
 go_enter Tryz.func243,Tryz.ntmps243
 go_wp2
 go_region_law (first
   |((refine step_append_lies ((w.alloc (.cells #[.int .i64 k,.string ⟨#[]⟩,.int .i64 0,.int .i64 x] 255)).drew) (by rfl) (Operand.tmp 8) (Operand.tmp 15) 155 (by rfl) B 255 i0 (.agg #[.int .i64 0,.string ⟨#[]⟩,.int .i64 0,.int .i64 0]) 4 40 Tryz.underlying155 hi hz0 hz1 hz2 rfl (by decide) tv n ts (by rfl) HOW.out ⟨w.heap.size,0,none⟩ 1 1 news (by rfl) hnl HNW.out hone (by decide) q1 q2 q3 (w.heap.size+1) q4 ?_;intro g' cap' w1 hown1 hgrow hat hltg;obtain⟨d2,f2,hb1⟩:=HP1.out hgrow))
   |fail)
 all_goals
  have HF:Hid (w1.ownsRow B 255 4 (.slice (some ⟨g',0,none⟩) (n+1) cap') (n+1) (ts++news)∧((w.alloc (.cells #[.int .i64 k,.string ⟨#[]⟩,.int .i64 0,.int .i64 x] 255)).drew).grownBy w1 tv.ownBlock∧(tv.ownBlock=some g'∨g'=w.heap.size+1)∧Below B w w1):=⟨hown1,hgrow,hat,hb1⟩
  clear hown1 hgrow hat hb1 hltg
  go_wp2
  go_end0
  exact⟨rfl,_,HPUT.out HF.out.1 HF.out.2.1 HF.out.2.2.1 (fun g=>rfl),HF.out.2.2.2.setCell (p:=⟨P,2,none⟩) H.out.hB _⟩
def Dr (w W:World):Prop:=∃ n,W=w.drewN n
theorem Dr.refl (w:World):Dr w w:=⟨0,rfl⟩
theorem Dr.drewN {w W:World}(h:Dr w W)(m:Nat):Dr w (W.drewN m):=by
 obtain⟨n,rfl⟩:=h
 exact⟨n+m,by rw[World.drewN_drewN]⟩
theorem Dr.drew {w W:World}(h:Dr w W):Dr w W.drew:=h.drewN 1
theorem Dr.trans {w W V:World}(h:Dr w W)(h':Dr W V):Dr w V:=by
 obtain⟨m,rfl⟩:=h'
 exact h.drewN m
theorem take_any {B P:Nat}{L:List UInt8}{tv iv:Value}{w:World}{p:Sp}(h:TS B P L tv iv w p)(hL:L.length≤6000)(hp:p.pos≤L.length)(F:Nat)(hh:UInt8→Bool)(hF:∀ W,Dr w W→Says F #[] W hh):
  Calls Tryz.prog 266 #[.pointer (some ⟨P,0,none⟩),.func (.func F) #[] #[]] w fun e w'=>e= .returned (.string (mkB ((L.drop p.pos).take (rch hh (L.drop p.pos)))))∧TS B P L tv iv w' {p with pos:=p.pos+rch hh (L.drop p.pos)}∧Below B w w'∧∀ g:Nat,g≠P→w'.heap[g]? =w.heap[g]? :=by
 have H:Hid (TS B P L tv iv w p):=h
 have HRe:Hid (∀ W,Dr w W→Calls Tryz.prog 270 #[.pointer (some ⟨P,0,none⟩)] W fun e w'=>e= .returned (.string (mkB (L.drop p.pos)))∧Dr w w'):=fun W hW=>by
  obtain⟨n,rfl⟩:=hW
  refine(rest_any (h.drewN n) hp).mono ?_
  rintro e w' ⟨he,m,rfl⟩
  exact⟨he,Dr.drewN ⟨n,rfl⟩ m⟩
 have HRc:Hid (∀ W,Dr w W→Calls Tryz.prog 293 #[.string (mkB (L.drop p.pos)),.func (.func F) #[] #[]] W fun e w'=>e= .returned (.int .i64 (rch hh (L.drop p.pos)))∧w'=W):=fun W hW=>by
  have:=reach_any F hh (mkB (L.drop p.pos)) W (by rw[mk_size,List.length_drop];omega) (hF W hW)
  rwa [mk_data]at this
 have c0:=h.c0
 have c1:=h.c1
 have f1:=h.fz 1
 have hsz:=mk_size L
 have hle:=rch_le hh (L.drop p.pos)
 rw[List.length_drop]at hle
 have HSP:Hid (∀ w':World,(∀ g:Nat,w'.heap[g]? =(w.setCell ⟨P,1,none⟩ (.int .i64 ((p.pos+rch hh (L.drop p.pos):Nat):Int))).heap[g]?)→TS B P L tv iv w' {p with pos:=p.pos+rch hh (L.drop p.pos)}):=fun w' hw=>h.setPos _ hw
 have hsl:=sl_mid L p.pos (p.pos+rch hh (L.drop p.pos)) _ _ rfl rfl (by omega) (by omega)
 rw[Nat.add_sub_cancel_left]at hsl
 generalize mkB ((L.drop p.pos).take (rch hh (L.drop p.pos)))=out at *
 generalize mkB (L.drop p.pos)=rs at *
 generalize rch hh (L.drop p.pos)=k at *
 have hpi:(p.pos:Int)≤6000:=by omega
 have hki:(k:Int)≤6000:=by omega
 have hs1:(p.pos:Int)+(k:Int)=((p.pos+k:Nat):Int):=by omega
 have hs2:((p.pos+k:Nat):Int)≤(L.length:Int):=by omega
 have hs3:(p.pos:Int)≤((p.pos+k:Nat):Int):=by omega
 obtain⟨y,hy⟩:∃ y,y=p.pos+k:=⟨_,rfl⟩
 rw[←hy]at hsl hs1 hs2 hs3 HSP
 rw[←hy]
 have hw1:IntKind.i64.wrap (y:Int)=(y:Int):=by rw[IntKind.wrap_i64];omega
 generalize hx:p.pos=x at *
 clear h hF hle hy
 go_enter Tryz.func266,Tryz.ntmps266
 go_wp2
 go_region_with (first
  |(go_at_call 270;refine(HRe.out _ (Dr.drew (Dr.refl _))).mono ?_;rintro e w1 ⟨rfl,n1,rfl⟩)
  |(go_at_call 293;refine(HRc.out _ ⟨_,rfl⟩).mono ?_;rintro e w' ⟨rfl,rfl⟩)
  |fail)
 all_goals
  have HT:Hid (TS B P L tv iv ((w.drewN n1).setCell ⟨P,1,none⟩ (.int .i64 (y:Int))) {p with pos:=y}):=HSP.out _ (fun g=>rfl)
  have HKP:Hid (∀ g:Nat,g≠P→((w.drewN n1).setCell ⟨P,1,none⟩ (.int .i64 (y:Int))).heap[g]? =w.heap[g]?):=fun g hg=>Below.heap_setCell (w.drewN n1) ⟨P,1,none⟩ _ g hg
  have HBL:Hid (Below B w ((w.drewN n1).setCell ⟨P,1,none⟩ (.int .i64 (y:Int)))):=(below_drewN (Below.refl B w) n1).setCell (p:=⟨P,1,none⟩) H.out.hB _
  have d0:=HT.out.c0
  have d1:=HT.out.c1
  generalize(w.drewN n1).setCell ⟨P,1,none⟩ (.int .i64 (y:Int))=w2 at *
  go_wp2
  go_quiet (fail)
  go_wp2
  go_ret
  exact⟨rfl,HT.out.drewN nq,below_drewN HBL.out nq,HKP.out⟩
theorem take_cap {B P:Nat}{L:List UInt8}{tv iv:Value}{w:World}{p:Sp}(h:TS B P L tv iv w p)(hL:L.length≤6000)(hp:p.pos≤L.length)(F:Nat)(u:Value)(hh:UInt8→Bool)(hF:∀ W,Dr w W→Says F #[u] W hh):
  Calls Tryz.prog 266 #[.pointer (some ⟨P,0,none⟩),.func (.func F) #[] #[u]] w fun e w'=>e= .returned (.string (mkB ((L.drop p.pos).take (rch hh (L.drop p.pos)))))∧TS B P L tv iv w' {p with pos:=p.pos+rch hh (L.drop p.pos)}∧Below B w w'∧∀ g:Nat,g≠P→w'.heap[g]? =w.heap[g]? :=by
 have H:Hid (TS B P L tv iv w p):=h
 have HRe:Hid (∀ W,Dr w W→Calls Tryz.prog 270 #[.pointer (some ⟨P,0,none⟩)] W fun e w'=>e= .returned (.string (mkB (L.drop p.pos)))∧Dr w w'):=fun W hW=>by
  obtain⟨n,rfl⟩:=hW
  refine(rest_any (h.drewN n) hp).mono ?_
  rintro e w' ⟨he,m,rfl⟩
  exact⟨he,Dr.drewN ⟨n,rfl⟩ m⟩
 have HRc:Hid (∀ W,Dr w W→Calls Tryz.prog 293 #[.string (mkB (L.drop p.pos)),.func (.func F) #[] #[u]] W fun e w'=>e= .returned (.int .i64 (rch hh (L.drop p.pos)))∧w'=W):=fun W hW=>by
  have:=reach_cap F u hh (mkB (L.drop p.pos)) W (by rw[mk_size,List.length_drop];omega) (hF W hW)
  rwa [mk_data]at this
 have c0:=h.c0
 have c1:=h.c1
 have f1:=h.fz 1
 have hsz:=mk_size L
 have hle:=rch_le hh (L.drop p.pos)
 rw[List.length_drop]at hle
 have HSP:Hid (∀ w':World,(∀ g:Nat,w'.heap[g]? =(w.setCell ⟨P,1,none⟩ (.int .i64 ((p.pos+rch hh (L.drop p.pos):Nat):Int))).heap[g]?)→TS B P L tv iv w' {p with pos:=p.pos+rch hh (L.drop p.pos)}):=fun w' hw=>h.setPos _ hw
 have hsl:=sl_mid L p.pos (p.pos+rch hh (L.drop p.pos)) _ _ rfl rfl (by omega) (by omega)
 rw[Nat.add_sub_cancel_left]at hsl
 generalize mkB ((L.drop p.pos).take (rch hh (L.drop p.pos)))=out at *
 generalize mkB (L.drop p.pos)=rs at *
 generalize rch hh (L.drop p.pos)=k at *
 have hpi:(p.pos:Int)≤6000:=by omega
 have hki:(k:Int)≤6000:=by omega
 have hs1:(p.pos:Int)+(k:Int)=((p.pos+k:Nat):Int):=by omega
 have hs2:((p.pos+k:Nat):Int)≤(L.length:Int):=by omega
 have hs3:(p.pos:Int)≤((p.pos+k:Nat):Int):=by omega
 obtain⟨y,hy⟩:∃ y,y=p.pos+k:=⟨_,rfl⟩
 rw[←hy]at hsl hs1 hs2 hs3 HSP
 rw[←hy]
 have hw1:IntKind.i64.wrap (y:Int)=(y:Int):=by rw[IntKind.wrap_i64];omega
 generalize hx:p.pos=x at *
 clear h hF hle hy
 go_enter Tryz.func266,Tryz.ntmps266
 go_wp2
 go_region_with (first
  |(go_at_call 270;refine(HRe.out _ (Dr.drew (Dr.refl _))).mono ?_;rintro e w1 ⟨rfl,n1,rfl⟩)
  |(go_at_call 293;refine(HRc.out _ ⟨_,rfl⟩).mono ?_;rintro e w' ⟨rfl,rfl⟩)
  |fail)
 all_goals
  have HT:Hid (TS B P L tv iv ((w.drewN n1).setCell ⟨P,1,none⟩ (.int .i64 (y:Int))) {p with pos:=y}):=HSP.out _ (fun g=>rfl)
  have HKP:Hid (∀ g:Nat,g≠P→((w.drewN n1).setCell ⟨P,1,none⟩ (.int .i64 (y:Int))).heap[g]? =w.heap[g]?):=fun g hg=>Below.heap_setCell (w.drewN n1) ⟨P,1,none⟩ _ g hg
  have HBL:Hid (Below B w ((w.drewN n1).setCell ⟨P,1,none⟩ (.int .i64 (y:Int)))):=(below_drewN (Below.refl B w) n1).setCell (p:=⟨P,1,none⟩) H.out.hB _
  have d0:=HT.out.c0
  have d1:=HT.out.c1
  generalize(w.drewN n1).setCell ⟨P,1,none⟩ (.int .i64 (y:Int))=w2 at *
  go_wp2
  go_quiet (fail)
  go_wp2
  go_ret
  exact⟨rfl,HT.out.drewN nq,below_drewN HBL.out nq,HKP.out⟩
theorem skip1_any (c:UInt8)(Q P o:Nat)(W:World)(hq:W.cell? ⟨Q,0,none⟩=some (.pointer (some ⟨P,0,none⟩)))(ho:W.cell? ⟨P,4,none⟩=some (.int .i64 o)):
  Calls Tryz.prog 267 #[.int .u8 c.toNat,.pointer (some ⟨Q,0,none⟩)] W fun e w'=>e= .returned (.bool (isBl o c))∧w'=W:=by
 have q1:=c_eq c 32
 have q2:=c_eq c 10
 have q1':((c.toNat:Int)==32)=decide (c.toNat=32):=q1
 have q2':((c.toNat:Int)==10)=decide (c.toNat=10):=q2
 have e:isBl o c=(decide (c.toNat=32)||(decide (c.toNat=10)&&decide (0<o))):=rfl
 rw[e]
 generalize decide (c.toNat=32)=b1 at *
 generalize decide (c.toNat=10)=b2 at *
 clear q1 q2 e
 cases b1 with
 |true=>
  go_enter Tryz.func267,Tryz.ntmps267
  go_wp2
  go_ret
  exact⟨rfl,rfl⟩
 |false=>
  cases b2 with
  |true=>
   go_enter Tryz.func267,Tryz.ntmps267
   go_wp2
   go_ret
   exact⟨ret_b (by simp),rfl⟩
  |false=>
   go_enter Tryz.func267,Tryz.ntmps267
   go_wp2
   go_ret
   exact⟨rfl,rfl⟩
theorem says_bl (Q P o:Nat)(W:World)(hq:W.cell? ⟨Q,0,none⟩=some (.pointer (some ⟨P,0,none⟩)))(ho:W.cell? ⟨P,4,none⟩=some (.int .i64 o)):Says 267 #[.pointer (some ⟨Q,0,none⟩)] W (isBl o):=
 ⟨enters_of Tryz.func267 (by kernel_rfl) rfl,fun c=>skip1_any c Q P o W hq ho⟩
theorem skp_len (o:Nat):∀ (f:Nat) (r:List UInt8),skp o f r≤r.length:=by
 intro f
 induction f with
 |zero=>intro r;exact rch_le _ r
 |succ f ih=>
  intro r
  unfold skp
  have h1:=rch_le (isBl o) r
  cases decide (((r.drop (rch (isBl o) r)).getD 0 0).toNat=35)
  ·exact h1
  ·have h2:=rch_le isNl (r.drop (rch (isBl o) r))
   have h3:=ih (r.drop (rch (isBl o) r+rch isNl (r.drop (rch (isBl o) r))))
   rw[List.length_drop]at h2 h3
   simp only[cond_true]
   omega
theorem nl_pos (r:List UInt8)(h:(r.getD 0 0).toNat=35):0<rch isNl r:=by
 match r with
 |[]=>simp at h
 |c::r=>
  have hc:c.toNat=35:=h
  unfold rch isNl
  rw[hc]
  simp
theorem skp_more (o:Nat):∀ (f g:Nat) (r:List UInt8),r.length≤f→r.length≤g→skp o f r=skp o g r:=by
 intro f
 induction f with
 |zero=>
  intro g r h1 _
  have:r=[]:=List.length_eq_zero_iff.1 (by omega)
  subst this
  cases g with
  |zero=>rfl
  |succ g=>rfl
 |succ f ih=>
  intro g r h1 h2
  cases g with
  |zero=>
   have:r=[]:=List.length_eq_zero_iff.1 (by omega)
   subst this
   rfl
  |succ g=>
   unfold skp
   cases hd:decide (((r.drop (rch (isBl o) r)).getD 0 0).toNat=35)with
   |false=>rfl
   |true=>
    have hp:=nl_pos _ (of_decide_eq_true hd)
    simp only[cond_true]
    rw[ih g _ (by rw[List.length_drop];omega) (by rw[List.length_drop];omega)]
theorem skp_stop (o f:Nat)(r:List UInt8)(h:¬((r.drop (rch (isBl o) r)).getD 0 0).toNat=35):skp o f r=rch (isBl o) r:=by
 cases f with
 |zero=>rfl
 |succ f=>
  unfold skp
  rw[show decide (((r.drop (rch (isBl o) r)).getD 0 0).toNat=35)=false from by simpa using h]
  rfl
theorem skp_go (o f:Nat)(r:List UInt8)(hf:r.length≤f)(h:((r.drop (rch (isBl o) r)).getD 0 0).toNat=35):skp o f r=rch (isBl o) r+rch isNl (r.drop (rch (isBl o) r))+skp o f (r.drop (rch (isBl o) r+rch isNl (r.drop (rch (isBl o) r)))):=by
 have h0:r≠[]:=by intro e;subst e;simp[rch]at h
 cases f with
 |zero=>exact absurd (List.length_eq_zero_iff.1 (by omega)) h0
 |succ f=>
  have hp:=nl_pos _ h
  have hl:0<r.length:=List.length_pos_iff.2 h0
  conv=>lhs;unfold skp
  rw[show decide (((r.drop (rch (isBl o) r)).getD 0 0).toNat=35)=true from by simpa using h]
  simp only[cond_true]
  rw[skp_more o f (f+1) _ (by rw[List.length_drop];omega) (by rw[List.length_drop];omega)]
def posOf (P:Nat)(w:World):Nat:=match w.cell? ⟨P,1,none⟩with|some (.int _ n)=>n.toNat|_=>0
theorem TS.posOf {B P:Nat}{L:List UInt8}{tv iv:Value}{w:World}{p:Sp}(h:TS B P L tv iv w p):posOf P w=p.pos:=by
 unfold Go.Proofs.YthfgpkdbclogpaaGreatDoor.posOf
 rw[h.c1]
 simp
theorem skip_any {B P:Nat}{L:List UInt8}{tv iv:Value}{w:World}{p:Sp}(h:TS B P L tv iv w p)(hL:L.length≤6000)(hp:p.pos≤L.length):
  Calls Tryz.prog 237 #[.pointer (some ⟨P,0,none⟩)] w fun e w'=>e= .returned (.tuple #[])∧TS B P L tv iv w' (p.skip L)∧Below B w w'∧∀ g:Nat,g<w.heap.size→g≠P→w'.heap[g]? =w.heap[g]? :=by
 have hBl:B≤w.heap.size:=by have:=h.hB;have:=h.lt;omega
 have H0:Hid (TS B P L tv iv (w.alloc (.cells #[.pointer (some ⟨P,0,none⟩)] 252)) p∧Below B w (w.alloc (.cells #[.pointer (some ⟨P,0,none⟩)] 252))∧(w.alloc (.cells #[.pointer (some ⟨P,0,none⟩)] 252)).heap[w.heap.size]? =some (.cells #[.pointer (some ⟨P,0,none⟩)] 252 (0,0))):=⟨h.up ((Below.refl _ _).alloc (Nat.le_refl _) _),(Below.refl _ _).alloc hBl _,heap_alloc_new w _⟩
 have hskip:p.skip L={p with pos:=p.pos+skp p.opn L.length (L.drop p.pos)}:=rfl
 rw[hskip]
 have HQ:Hid (P<w.heap.size∧B≤P):=⟨h.lt,h.hB⟩
 have HK0:Hid (∀ g:Nat,g<w.heap.size→(w.alloc (.cells #[.pointer (some ⟨P,0,none⟩)] 252)).heap[g]? =w.heap[g]?):=fun g hg=>heap_al w _ g hg
 have hen:∀ args w,(callFunc 267 args).run Tryz.prog w= .ok (.enter 267 args) w:=enters_of Tryz.func267 (by kernel_rfl) rfl
 have hmf:∀ (fn:Fn) (first cap:Array Value) (w:World),(Instr.makeFunc fn first cap).run Tryz.prog w= .ok (.func fn first cap) w:=fun _ _ _ _=>rfl
 generalize hQ:w.heap.size=Q at *
 clear h hskip
 go_enter Tryz.func237,Tryz.ntmps237
 go_wp2
 go_loopw [2] (fun _ wr=>∃ x:Nat,x≤L.length∧Hid (p.pos+skp p.opn L.length (L.drop p.pos)=x+skp p.opn L.length (L.drop x))∧Hid (TS B P L tv iv wr {p with pos:=x}∧Below B w wr∧wr.heap[Q]? =some (.cells #[.pointer (some ⟨P,0,none⟩)] 252 (0,0))∧∀ g:Nat,g<Q→g≠P→wr.heap[g]? =w.heap[g]?)) (fun _ wr=>L.length-posOf P wr)
 case atStart=>exact⟨p.pos,hp,rfl,H0.out.1,H0.out.2.1,H0.out.2.2,fun g hg _=>HK0.out g hg⟩
 case round=>
  obtain⟨x,hx,HE,HT⟩:=hrel
  clear H0 HK0
  have q0:wr.cell? ⟨Q,0,none⟩=some (.pointer (some ⟨P,0,none⟩)):=by rw[Lib.cell_of_heap HT.out.2.2.1];rfl
  have HPQ:Hid (Q≠P):=by have:=HQ.out.1;show _≠_;omega
  have HTk:Hid (Calls Tryz.prog 266 #[.pointer (some ⟨P,0,none⟩),.func (.func 267) #[] #[.pointer (some ⟨Q,0,none⟩)]] wr fun e w'=>(∃ t,e= .returned (.string t))∧TS B P L tv iv w' {p with pos:=x+rch (isBl p.opn) (L.drop x)}∧Below B wr w'∧∀ g:Nat,g≠P→w'.heap[g]? =wr.heap[g]?):=
   (take_cap HT.out.1 hL hx 267 (.pointer (some ⟨Q,0,none⟩)) (isBl p.opn) (fun W hW=>by
    obtain⟨n,rfl⟩:=hW
    exact says_bl Q P p.opn _ q0 HT.out.1.c4)).mono fun e w' ⟨a,b,c,d⟩=>⟨⟨_,a⟩,b,c,d⟩
  have hle1:=rch_le (isBl p.opn) (L.drop x)
  rw[List.length_drop]at hle1
  have HST:Hid (¬(L.getD (x+rch (isBl p.opn) (L.drop x)) 0).toNat=35→x+skp p.opn L.length (L.drop x)=x+rch (isBl p.opn) (L.drop x)):=fun hne=>by
   rw[skp_stop p.opn L.length (L.drop x) (by rw[List.drop_drop,at_drop];exact hne)]
  have HGO:Hid ((L.getD (x+rch (isBl p.opn) (L.drop x)) 0).toNat=35→x+skp p.opn L.length (L.drop x)=x+rch (isBl p.opn) (L.drop x)+rch isNl (L.drop (x+rch (isBl p.opn) (L.drop x)))+skp p.opn L.length (L.drop (x+rch (isBl p.opn) (L.drop x)+rch isNl (L.drop (x+rch (isBl p.opn) (L.drop x)))))):=fun he=>by
   have:=skp_go p.opn L.length (L.drop x) (by rw[List.length_drop];omega) (by rw[List.drop_drop,at_drop];exact he)
   rw[List.drop_drop,List.drop_drop,←Nat.add_assoc]at this
   omega
  generalize rch (isBl p.opn) (L.drop x)=k at *
  obtain⟨x1,hx1⟩:∃ x1,x1=x+k:=⟨_,rfl⟩
  rw[←hx1]at HTk HST HGO
  have hx1l:x1≤L.length:=by omega
  go_wp2_with fail
  refine HTk.out.mono ?_
  rintro e w1 ⟨⟨t1,rfl⟩,hts1,hb1,hk1⟩
  have HT1:Hid (TS B P L tv iv w1 {p with pos:=x1}∧Below B w w1∧w1.heap[Q]? =some (.cells #[.pointer (some ⟨P,0,none⟩)] 252 (0,0))∧∀ g:Nat,g<Q→g≠P→w1.heap[g]? =w.heap[g]?):=⟨hts1,HT.out.2.1.trans hb1,(hk1 Q HPQ.out).trans HT.out.2.2.1,fun g hg hp=>(hk1 g hp).trans (HT.out.2.2.2 g hg hp)⟩
  have q1:w1.cell? ⟨Q,0,none⟩=some (.pointer (some ⟨P,0,none⟩)):=by rw[Lib.cell_of_heap HT1.out.2.2.1];rfl
  have HSe:Hid (Calls Tryz.prog 238 #[.pointer (some ⟨P,0,none⟩),.int .u8 (35:Nat)] w1 fun e w'=>e= .returned (.bool (decide ((L.getD x1 0).toNat=35)))∧∃ n,w'=w1.drewN n):=sees_any hts1 hx1l 35 (by decide)
  clear hts1 hb1 hk1 q0 HTk
  by_cases hsee:(L.getD x1 0).toNat=35
  ·rw[show decide ((L.getD x1 0).toNat=35)=true from by simpa using hsee]at HSe
   have HGo:=HGO.out hsee
   have hnp:0<rch isNl (L.drop x1):=nl_pos _ (by rw[at_drop];exact hsee)
   have hle2:=rch_le isNl (L.drop x1)
   rw[List.length_drop]at hle2
   have HTk2:Hid (∀ n,Calls Tryz.prog 266 #[.pointer (some ⟨P,0,none⟩),.func (.func 268) #[] #[]] (w1.drewN n) fun e w'=>(∃ t,e= .returned (.string t))∧TS B P L tv iv w' {p with pos:=x1+rch isNl (L.drop x1)}∧Below B (w1.drewN n) w'∧∀ g:Nat,g≠P→w'.heap[g]? =w1.heap[g]?):=fun n=>
    (take_any (HT1.out.1.drewN n) hL hx1l 268 isNl (fun W _=>says_nl W)).mono fun e w' ⟨a,b,c,d⟩=>⟨⟨_,a⟩,b,c,d⟩
   have HGo':Hid _:=HGo
   generalize rch isNl (L.drop x1)=m at *
   clear hsee HGO HST HGo
   go_wp2_with fail
   refine HSe.out.mono ?_
   rintro e w' ⟨rfl,n,rfl⟩
   go_wp2_with fail
   refine(HTk2.out n).mono ?_
   rintro e w2 ⟨⟨t2,rfl⟩,hts2,hb2,hk2⟩
   have HT2:Hid (TS B P L tv iv w2 {p with pos:=x1+m}∧Below B w w2∧w2.heap[Q]? =some (.cells #[.pointer (some ⟨P,0,none⟩)] 252 (0,0))∧∀ g:Nat,g<Q→g≠P→w2.heap[g]? =w.heap[g]?):=⟨hts2,(below_drewN HT1.out.2.1 n).trans hb2,(hk2 Q HPQ.out).trans HT1.out.2.2.1,fun g hg hp=>(hk2 g hp).trans (HT1.out.2.2.2 g hg hp)⟩
   clear hts2 hb2 hk2
   go_wp2
   refine⟨⟨x1+m,by omega,HE.out.trans HGo'.out,HT2⟩,?_⟩
   rw[HT2.out.1.posOf,HT.out.1.posOf]
   show L.length-(x1+m)<L.length-x
   omega
  ·rw[show decide ((L.getD x1 0).toNat=35)=false from by simpa using hsee]at HSe
   have HEnd:Hid (p.pos+skp p.opn L.length (L.drop p.pos)=x1):=HE.out.trans (HST.out hsee)
   clear hsee HGO HST
   go_wp2_with fail
   refine HSe.out.mono ?_
   rintro e w' ⟨rfl,n,rfl⟩
   go_wp2
   refine bodyPost_ret (results_none rfl _ _ _) rfl ?_
   refine⟨rfl,?_,below_drewN HT1.out.2.1 n,fun g hg hp=>HT1.out.2.2.2 g hg hp⟩
   rw[HEnd.out]
   exact HT1.out.1.drewN n
end Go.Proofs.YthfgpkdbclogpaaGreatDoor
