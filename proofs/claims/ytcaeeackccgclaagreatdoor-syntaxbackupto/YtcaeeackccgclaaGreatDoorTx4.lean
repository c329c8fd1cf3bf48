/- 4. -/
import Derived.Test.YtcaeeackccgclaaGreatDoorTx3
set_option maxHeartbeats 40000000
set_option maxRecDepth 100000
namespace Go.Proofs.YtcaeeackccgclaaGreatDoor
open Go.RowKit Go.Shelf
def Fa {α β:Type}(R:α→β→Prop):List α→List β→Prop
 |[],[]=>True
 |a::l,b::m=>R a b∧Fa R l m
 |[],_::_=>False
 |_::_,[]=>False
theorem Fa.mono {α β:Type}{R Q:α→β→Prop}(h:∀ a b,R a b→Q a b):∀ {l:List α} {m:List β},Fa R l m→Fa Q l m
 |[],[],_=>trivial
 |_::_,_::_,f=>⟨h _ _ f.1,Fa.mono h f.2⟩
theorem Fa.len {α β:Type}{R:α→β→Prop}:∀ {l:List α} {m:List β},Fa R l m→l.length=m.length
 |[],[],_=>rfl
 |_::_,_::_,f=>by simp[Fa.len f.2]
theorem Fa.snoc {α β:Type}{R:α→β→Prop}{a:α}{b:β}(h:R a b):∀ {l:List α} {m:List β},Fa R l m→Fa R (l++[a]) (m++[b])
 |[],[],_=>⟨h,trivial⟩
 |_::_,_::_,f=>⟨f.1,Fa.snoc h f.2⟩
theorem Fa.get {α β:Type}{R:α→β→Prop}:∀ {l:List α} {m:List β} (_:Fa R l m) (i:Nat) (hi:i<l.length) (hj:i<m.length),R l[i] m[i]
 |_::_,_::_,f,0,_,_=>f.1
 |_::_,_::_,f,i+1,hi,hj=>Fa.get f.2 i (Nat.lt_of_succ_lt_succ hi) (Nat.lt_of_succ_lt_succ hj)
def sv (x:List UInt8):Value:= .string (mkB x)
def ExV (w:World)(S:Nat→Prop):Nat→Ex→List Value→Prop
 |0,_,_=>False
 |n+1,x,c=>∃ kv nv vs,c=[.int .i64 x.kind,.int .i64 x.num,sv x.text,kv,nv]∧w.ownsRow 0 38 5 kv x.kids.length vs.flatten∧w.ownsRow 0 9 1 nv x.names.length (x.names.map sv)∧(∀ g,kv.ownBlock=some g→S g)∧(∀ g,nv.ownBlock=some g→S g)∧Fa (ExV w S n) x.kids vs
theorem ExV.len {w:World}{S:Nat→Prop}:∀ {n:Nat} {x:Ex} {c:List Value},ExV w S n x c→c.length=5
 |_+1,_,_,⟨_,_,_,e,_⟩=>by rw[e];rfl
theorem ExV.keep {w w':World}{S Q:Nat→Prop}(hk:∀ g,S g→g<w.heap.size→w'.heap[g]? =w.heap[g]?)(hs:∀ g,S g→g<w.heap.size→Q g):∀ {n:Nat} {x:Ex} {c:List Value},ExV w S n x c→ExV w' Q n x c
 |_+1,_,_,⟨kv,nv,vs,e,h1,h2,h3,h4,h5⟩=>⟨kv,nv,vs,e,own_heap h1 fun g hg=>hk g (h3 g hg) (h1.lt g hg).2,own_heap h2 fun g hg=>hk g (h4 g hg) (h2.lt g hg).2,fun g hg=>hs g (h3 g hg) (h1.lt g hg).2,fun g hg=>hs g (h4 g hg) (h2.lt g hg).2,h5.mono fun _ _ f=>ExV.keep hk hs f⟩
theorem ExV.up {w:World}{S:Nat→Prop}:∀ {n:Nat} {x:Ex} {c:List Value},ExV w S n x c→ExV w S (n+1) x c
 |_+1,_,_,⟨kv,nv,vs,e,h1,h2,h3,h4,h5⟩=>⟨kv,nv,vs,e,h1,h2,h3,h4,h5.mono fun _ _ f=>ExV.up f⟩
theorem ExV.le {w:World}{S:Nat→Prop}{n:Nat}{x:Ex}{c:List Value}(h:ExV w S n x c):∀ m,n≤m→ExV w S m x c
 |m,hm=>by
  induction m with
  |zero=>
   obtain rfl:n=0:=by omega
   exact h
  |succ m ih=>
   rcases Nat.lt_or_ge m n with hl|hl
   ·obtain rfl:n=m+1:=by omega
    exact h
   ·exact(ih hl).up
def ExA (w:World)(S:Nat→Prop)(x:Ex)(c:List Value):Prop:=∃ n,ExV w S n x c
section
variable {w w':World} {S Q:Nat→Prop} {x:Ex} {c:List Value}
theorem ExA.len (h:ExA w S x c):c.length=5:=h.choose_spec.len
theorem ExA.keep (h:ExA w S x c)(hk:∀ g,S g→g<w.heap.size→w'.heap[g]? =w.heap[g]?)(hs:∀ g,S g→g<w.heap.size→Q g):ExA w' Q x c:=⟨h.choose,h.choose_spec.keep hk hs⟩
theorem ExA.mono (h:ExA w S x c)(hs:∀ g,S g→g<w.heap.size→Q g):ExA w Q x c:=h.keep (fun _ _ _=>rfl) hs
theorem fa_all:∀ {l:List Ex} {vs:List (List Value)},Fa (ExA w S) l vs→∃ n,Fa (ExV w S n) l vs
 |[],[],_=>⟨0,trivial⟩
 |a::l,b::m,f=>by
  obtain⟨n1,h1⟩:=f.1
  obtain⟨n2,h2⟩:=fa_all f.2
  exact⟨max n1 n2,h1.le _ (Nat.le_max_left _ _),h2.mono fun _ _ h=>h.le _ (Nat.le_max_right _ _)⟩
theorem ExA.make {kv nv:Value}{vs:List (List Value)}(h1:w.ownsRow 0 38 5 kv x.kids.length vs.flatten)(h2:w.ownsRow 0 9 1 nv x.names.length (x.names.map sv))(h3:∀ g,kv.ownBlock=some g→S g)(h4:∀ g,nv.ownBlock=some g→S g)(h5:Fa (ExA w S) x.kids vs):
  ExA w S x [.int .i64 x.kind,.int .i64 x.num,sv x.text,kv,nv]:=by
 obtain⟨n,h6⟩:=fa_all h5
 exact⟨n+1,kv,nv,vs,rfl,h1,h2,h3,h4,h6⟩
theorem ExA.open (h:ExA w S x c):∃ kv nv vs,c=[.int .i64 x.kind,.int .i64 x.num,sv x.text,kv,nv]∧w.ownsRow 0 38 5 kv x.kids.length vs.flatten∧w.ownsRow 0 9 1 nv x.names.length (x.names.map sv)∧(∀ g,kv.ownBlock=some g→S g)∧(∀ g,nv.ownBlock=some g→S g)∧Fa (ExA w S) x.kids vs:=by
 obtain⟨n,hn⟩:=h
 match n,hn with
 |n+1,⟨kv,nv,vs,e,h1,h2,h3,h4,h5⟩=>exact⟨kv,nv,vs,e,h1,h2,h3,h4,h5.mono fun _ _ f=>⟨n,f⟩⟩
theorem ExA.leaf (k n:Nat)(t:List UInt8):ExA w S ⟨k,n,t,[],[]⟩ [.int .i64 k,.int .i64 n,sv t,.slice none 0 0,.slice none 0 0]:=
 ExA.make (x:=⟨k,n,t,[],[]⟩) (vs:=[]) (World.ownsRow_nil _ _ _ _) (World.ownsRow_nil _ _ _ _) (fun g h=>by cases h) (fun g h=>by cases h) trivial
end
structure KP (P:Nat)(w w':World):Prop where
 os:w'.os=w.os
 tape:w'.tape=w.tape
 output:w'.output=w.output
 size:w.heap.size≤w'.heap.size
 blk:∀ g,g<w.heap.size→g≠P→w'.heap[g]? =w.heap[g]?
section
variable {P:Nat} {a b c:World}
theorem KP.refl (P:Nat)(w:World):KP P w w:=⟨rfl,rfl,rfl,Nat.le_refl _,fun _ _ _=>rfl⟩
theorem KP.trans (h:KP P a b)(k:KP P b c):KP P a c:=⟨k.os.trans h.os,k.tape.trans h.tape,k.output.trans h.output,Nat.le_trans h.size k.size,fun g hg hp=>(k.blk g (Nat.lt_of_lt_of_le hg h.size) hp).trans (h.blk g hg hp)⟩
theorem KP.of_below (h:Below a.heap.size a b):KP P a b:=⟨h.os,h.tape,h.output,h.size,fun g hg _=>h.block g hg⟩
theorem KP.below (h:KP P a b){B:Nat}(hB:B≤P)(hl:B≤a.heap.size):Below B a b:=⟨h.os,h.tape,h.output,h.size,fun g hg=>h.blk g (by omega) (by omega)⟩
theorem KP.drewN (h:KP P a b)(n:Nat):KP P a (b.drewN n):=⟨h.os,h.tape,h.output,h.size,h.blk⟩
theorem KP.drew (h:KP P a b):KP P a b.drew:=⟨h.os,h.tape,h.output,h.size,h.blk⟩
theorem KP.alloc (h:KP P a b)(o:Obj):KP P a (b.alloc o):=by
 have:=(Below.refl b.heap.size b).alloc (Nat.le_refl _) o
 exact h.trans (KP.of_below this)
theorem KP.setCell (h:KP P a b)(i:Nat)(v:Value):KP P a (b.setCell ⟨P,i,none⟩ v):=by
 have hs:(b.setCell ⟨P,i,none⟩ v).heap.size=b.heap.size:=by simp[World.setCell]
 refine h.trans ⟨rfl,rfl,rfl,by omega,fun g _ hp=>Below.heap_setCell b ⟨P,i,none⟩ v g hp⟩
end
def PsA (P T:Nat)(w:World)(p:Ps):Prop:=∃ a c o,w.heap[P]? =some (.cells #[.slice a p.toks.length c,.int .i64 p.fin,.int .i64 p.blk,.bool p.inD,.int .i64 p.deep] 60 (0,0))∧p.toks.length≤c∧0≤c∧(0<p.toks.length→a=some ⟨T,o,none⟩)∧(∀ j,j<p.toks.length*4→w.cell? ⟨T,o+j,none⟩=(tcs p.toks)[j]?)∧T≠P∧T<w.heap.size∧p.deep≤1000∧p.blk≤1000000
section
variable {P T:Nat} {w w':World} {p:Ps}
theorem PsA.lt (h:PsA P T w p):P<w.heap.size:=by
 obtain⟨a,c,o,h,_⟩:=h
 exact(Array.getElem?_eq_some_iff.1 h).1
theorem PsA.keep (h:PsA P T w p)(hP:w'.heap[P]? =w.heap[P]?)(hT:w'.heap[T]? =w.heap[T]?):PsA P T w' p:=by
 obtain⟨a,c,o,h1,h2,h3,h4,h5,h6,h7,h8⟩:=h
 have hlt:T<w'.heap.size:=by
  have:w.heap[T]? =some w.heap[T]:=Array.getElem?_eq_getElem h7
  exact(Array.getElem?_eq_some_iff.1 (hT.trans this)).1
 refine⟨a,c,o,hP.trans h1,h2,h3,h4,fun j hj=>?_,h6,hlt,h8⟩
 rw[←h5 j hj]
 simp[World.cell?,hT]
theorem PsA.up (h:PsA P T w p)(hb:Below w.heap.size w w'):PsA P T w' p:=h.keep (hb.block _ h.lt) (hb.block _ (by obtain⟨_,_,_,_,_,_,_,_,_,h7,_⟩:=h;exact h7))
theorem PsA.drewN (h:PsA P T w p)(n:Nat):PsA P T (w.drewN n) p:=h.keep rfl rfl
end
def PoA {α:Type}(P T:Nat)(V:World→α→Value→Prop)(w:World)(z:Except Ft (α×Ps))(e:Ending)(w':World):Prop:=match z with
 | .error (k,x)=>e=PF k x∧KP P w w'
 | .ok (a,q)=>∃ v,e= .returned v∧V w' a v∧PsA P T w' q∧KP P w w'
theorem skip1_any (c:UInt8)(Q P o:Nat)(W:World)(hq:W.cell? ⟨Q,0,none⟩=some (.pointer (some ⟨P,0,none⟩)))(ho:W.cell? ⟨P,4,none⟩=some (.int .i64 o)):
  Calls Tryz.prog 89 #[.int .u8 c.toNat,.pointer (some ⟨Q,0,none⟩)] W fun e w'=>e= .returned (.bool (isBl o c))∧w'=W:=by
 have q1:=c_eq c 32
 have q2:=c_eq c 10
 have q1':((c.toNat:Int)==32)=decide (c.toNat=32):=q1
 have q2':((c.toNat:Int)==10)=decide (c.toNat=10):=q2
 have e:isBl o c=(decide (c.toNat=32)||(decide (c.toNat=10)&&decide (0<o))):=rfl
 rw[e]
 generalize decide (c.toNat=32)=b1 at *
 generalize decide (c.toNat=10)=b2 at *
 clear q1 q2 e
 cases b1 with
 |true=>
  go_enter Tryz.func89,Tryz.ntmps89
  go_wp2
  go_ret
  exact⟨rfl,rfl⟩
 |false=>
  cases b2 with
  |true=>
   go_enter Tryz.func89,Tryz.ntmps89
   go_wp2
   go_ret
   exact⟨ret_b (by simp),rfl⟩
  |false=>
   go_enter Tryz.func89,Tryz.ntmps89
   go_wp2
   go_ret
   exact⟨rfl,rfl⟩
theorem says_bl (Q P o:Nat)(W:World)(hq:W.cell? ⟨Q,0,none⟩=some (.pointer (some ⟨P,0,none⟩)))(ho:W.cell? ⟨P,4,none⟩=some (.int .i64 o)):Says 89 #[.pointer (some ⟨Q,0,none⟩)] W (isBl o):=
 ⟨enters_of Tryz.func89 (by kernel_rfl) rfl,fun c=>skip1_any c Q P o W hq ho⟩
theorem skp_len (o:Nat):∀ (f:Nat) (r:List UInt8),skp o f r≤r.length:=by
 intro f
 induction f with
 |zero=>intro r;exact rch_le _ r
 |succ f ih=>
  intro r
  unfold skp
  have h1:=rch_le (isBl o) r
  cases decide (((r.drop (rch (isBl o) r)).getD 0 0).toNat=35)
  ·exact h1
  ·have h2:=rch_le isNl (r.drop (rch (isBl o) r))
   have h3:=ih (r.drop (rch (isBl o) r+rch isNl (r.drop (rch (isBl o) r))))
   rw[List.length_drop]at h2 h3
   simp only[cond_true]
   omega
theorem nl_pos (r:List UInt8)(h:(r.getD 0 0).toNat=35):0<rch isNl r:=by
 match r with
 |[]=>simp at h
 |c::r=>
  have hc:c.toNat=35:=h
  unfold rch isNl
  rw[hc]
  simp
theorem skp_more (o:Nat):∀ (f g:Nat) (r:List UInt8),r.length≤f→r.length≤g→skp o f r=skp o g r:=by
 intro f
 induction f with
 |zero=>
  intro g r h1 _
  have:r=[]:=List.length_eq_zero_iff.1 (by omega)
  subst this
  cases g with
  |zero=>rfl
  |succ g=>rfl
 |succ f ih=>
  intro g r h1 h2
  cases g with
  |zero=>
   have:r=[]:=List.length_eq_zero_iff.1 (by omega)
   subst this
   rfl
  |succ g=>
   unfold skp
   cases hd:decide (((r.drop (rch (isBl o) r)).getD 0 0).toNat=35)with
   |false=>rfl
   |true=>
    have hp:=nl_pos _ (of_decide_eq_true hd)
    simp only[cond_true]
    rw[ih g _ (by rw[List.length_drop];omega) (by rw[List.length_drop];omega)]
theorem skp_stop (o f:Nat)(r:List UInt8)(h:¬((r.drop (rch (isBl o) r)).getD 0 0).toNat=35):skp o f r=rch (isBl o) r:=by
 cases f with
 |zero=>rfl
 |succ f=>
  unfold skp
  rw[show decide (((r.drop (rch (isBl o) r)).getD 0 0).toNat=35)=false from by simpa using h]
  rfl
theorem skp_go (o f:Nat)(r:List UInt8)(hf:r.length≤f)(h:((r.drop (rch (isBl o) r)).getD 0 0).toNat=35):skp o f r=rch (isBl o) r+rch isNl (r.drop (rch (isBl o) r))+skp o f (r.drop (rch (isBl o) r+rch isNl (r.drop (rch (isBl o) r)))):=by
 have h0:r≠[]:=by intro e;subst e;simp[rch]at h
 cases f with
 |zero=>exact absurd (List.length_eq_zero_iff.1 (by omega)) h0
 |succ f=>
  have hp:=nl_pos _ h
  have hl:0<r.length:=List.length_pos_iff.2 h0
  conv=>lhs;unfold skp
  rw[show decide (((r.drop (rch (isBl o) r)).getD 0 0).toNat=35)=true from by simpa using h]
  simp only[cond_true]
  rw[skp_more o f (f+1) _ (by rw[List.length_drop];omega) (by rw[List.length_drop];omega)]
def posOf (P:Nat)(w:World):Nat:=match w.cell? ⟨P,1,none⟩with|some (.int _ n)=>n.toNat|_=>0
theorem TS.posOf {B P:Nat}{L:List UInt8}{tv iv:Value}{w:World}{p:Sp}(h:TS B P L tv iv w p):posOf P w=p.pos:=by
 unfold Go.Proofs.YtcaeeackccgclaaGreatDoor.posOf
 rw[h.c1]
 simp
theorem skip_any {B P:Nat}{L:List UInt8}{tv iv:Value}{w:World}{p:Sp}(h:TS B P L tv iv w p)(hL:L.length≤6000)(hp:p.pos≤L.length):
  Calls Tryz.prog 60 #[.pointer (some ⟨P,0,none⟩)] w fun e w'=>e= .returned (.tuple #[])∧TS B P L tv iv w' (p.skip L)∧Below B w w'∧∀ g:Nat,g<w.heap.size→g≠P→w'.heap[g]? =w.heap[g]? :=by
 have hBl:B≤w.heap.size:=by have:=h.hB;have:=h.lt;omega
 have H0:Hid (TS B P L tv iv (w.alloc (.cells #[.pointer (some ⟨P,0,none⟩)] 81)) p∧Below B w (w.alloc (.cells #[.pointer (some ⟨P,0,none⟩)] 81))∧(w.alloc (.cells #[.pointer (some ⟨P,0,none⟩)] 81)).heap[w.heap.size]? =some (.cells #[.pointer (some ⟨P,0,none⟩)] 81 (0,0))):=⟨h.up ((Below.refl _ _).alloc (Nat.le_refl _) _),(Below.refl _ _).alloc hBl _,heap_alloc_new w _⟩
 have hskip:p.skip L={p with pos:=p.pos+skp p.opn L.length (L.drop p.pos)}:=rfl
 rw[hskip]
 have HQ:Hid (P<w.heap.size∧B≤P):=⟨h.lt,h.hB⟩
 have HK0:Hid (∀ g:Nat,g<w.heap.size→(w.alloc (.cells #[.pointer (some ⟨P,0,none⟩)] 81)).heap[g]? =w.heap[g]?):=fun g hg=>heap_al w _ g hg
 have hen:∀ args w,(callFunc 89 args).run Tryz.prog w= .ok (.enter 89 args) w:=enters_of Tryz.func89 (by kernel_rfl) rfl
 have hmf:∀ (fn:Fn) (first cap:Array Value) (w:World),(Instr.makeFunc fn first cap).run Tryz.prog w= .ok (.func fn first cap) w:=fun _ _ _ _=>rfl
 generalize hQ:w.heap.size=Q at *
 clear h hskip
 go_enter Tryz.func60,Tryz.ntmps60
 go_wp2
 go_loopw [2] (fun _ wr=>∃ x:Nat,x≤L.length∧Hid (p.pos+skp p.opn L.length (L.drop p.pos)=x+skp p.opn L.length (L.drop x))∧Hid (TS B P L tv iv wr {p with pos:=x}∧Below B w wr∧wr.heap[Q]? =some (.cells #[.pointer (some ⟨P,0,none⟩)] 81 (0,0))∧∀ g:Nat,g<Q→g≠P→wr.heap[g]? =w.heap[g]?)) (fun _ wr=>L.length-posOf P wr)
 case atStart=>exact⟨p.pos,hp,rfl,H0.out.1,H0.out.2.1,H0.out.2.2,fun g hg _=>HK0.out g hg⟩
 case round=>
  obtain⟨x,hx,HE,HT⟩:=hrel
  clear H0 HK0
  have q0:wr.cell? ⟨Q,0,none⟩=some (.pointer (some ⟨P,0,none⟩)):=by rw[Lib.cell_of_heap HT.out.2.2.1];rfl
  have HPQ:Hid (Q≠P):=by have:=HQ.out.1;show _≠_;omega
  have HTk:Hid (Calls Tryz.prog 88 #[.pointer (some ⟨P,0,none⟩),.func (.func 89) #[] #[.pointer (some ⟨Q,0,none⟩)]] wr fun e w'=>(∃ t,e= .returned (.string t))∧TS B P L tv iv w' {p with pos:=x+rch (isBl p.opn) (L.drop x)}∧Below B wr w'∧∀ g:Nat,g≠P→w'.heap[g]? =wr.heap[g]?):=
   (take_cap HT.out.1 hL hx 89 (.pointer (some ⟨Q,0,none⟩)) (isBl p.opn) (fun W hW=>by
    obtain⟨n,rfl⟩:=hW
    exact says_bl Q P p.opn _ q0 HT.out.1.c4)).mono fun e w' ⟨a,b,c,d⟩=>⟨⟨_,a⟩,b,c,d⟩
  have hle1:=rch_le (isBl p.opn) (L.drop x)
  rw[List.length_drop]at hle1
  have HST:Hid (¬(L.getD (x+rch (isBl p.opn) (L.drop x)) 0).toNat=35→x+skp p.opn L.length (L.drop x)=x+rch (isBl p.opn) (L.drop x)):=fun hne=>by
   rw[skp_stop p.opn L.length (L.drop x) (by rw[List.drop_drop,at_drop];exact hne)]
  have HGO:Hid ((L.getD (x+rch (isBl p.opn) (L.drop x)) 0).toNat=35→x+skp p.opn L.length (L.drop x)=x+rch (isBl p.opn) (L.drop x)+rch isNl (L.drop (x+rch (isBl p.opn) (L.drop x)))+skp p.opn L.length (L.drop (x+rch (isBl p.opn) (L.drop x)+rch isNl (L.drop (x+rch (isBl p.opn) (L.drop x)))))):=fun he=>by
   have:=skp_go p.opn L.length (L.drop x) (by rw[List.length_drop];omega) (by rw[List.drop_drop,at_drop];exact he)
   rw[List.drop_drop,List.drop_drop,←Nat.add_assoc]at this
   omega
  generalize rch (isBl p.opn) (L.drop x)=k at *
  obtain⟨x1,hx1⟩:∃ x1,x1=x+k:=⟨_,rfl⟩
  rw[←hx1]at HTk HST HGO
  have hx1l:x1≤L.length:=by omega
  go_wp2_with fail
  refine HTk.out.mono ?_
  rintro e w1 ⟨⟨t1,rfl⟩,hts1,hb1,hk1⟩
  have HT1:Hid (TS B P L tv iv w1 {p with pos:=x1}∧Below B w w1∧w1.heap[Q]? =some (.cells #[.pointer (some ⟨P,0,none⟩)] 81 (0,0))∧∀ g:Nat,g<Q→g≠P→w1.heap[g]? =w.heap[g]?):=⟨hts1,HT.out.2.1.trans hb1,(hk1 Q HPQ.out).trans HT.out.2.2.1,fun g hg hp=>(hk1 g hp).trans (HT.out.2.2.2 g hg hp)⟩
  have q1:w1.cell? ⟨Q,0,none⟩=some (.pointer (some ⟨P,0,none⟩)):=by rw[Lib.cell_of_heap HT1.out.2.2.1];rfl
  have HSe:Hid (Calls Tryz.prog 61 #[.pointer (some ⟨P,0,none⟩),.int .u8 (35:Nat)] w1 fun e w'=>e= .returned (.bool (decide ((L.getD x1 0).toNat=35)))∧∃ n,w'=w1.drewN n):=sees_any hts1 hx1l 35 (by decide)
  clear hts1 hb1 hk1 q0 HTk
  by_cases hsee:(L.getD x1 0).toNat=35
  ·rw[show decide ((L.getD x1 0).toNat=35)=true from by simpa using hsee]at HSe
   have HGo:=HGO.out hsee
   have hnp:0<rch isNl (L.drop x1):=nl_pos _ (by rw[at_drop];exact hsee)
   have hle2:=rch_le isNl (L.drop x1)
   rw[List.length_drop]at hle2
   have HTk2:Hid (∀ n,Calls Tryz.prog 88 #[.pointer (some ⟨P,0,none⟩),.func (.func 90) #[] #[]] (w1.drewN n) fun e w'=>(∃ t,e= .returned (.string t))∧TS B P L tv iv w' {p with pos:=x1+rch isNl (L.drop x1)}∧Below B (w1.drewN n) w'∧∀ g:Nat,g≠P→w'.heap[g]? =w1.heap[g]?):=fun n=>
    (take_any (HT1.out.1.drewN n) hL hx1l 90 isNl (fun W _=>says_nl W)).mono fun e w' ⟨a,b,c,d⟩=>⟨⟨_,a⟩,b,c,d⟩
   have HGo':Hid _:=HGo
   generalize rch isNl (L.drop x1)=m at *
   clear hsee HGO HST HGo
   go_wp2_with fail
   refine HSe.out.mono ?_
   rintro e w' ⟨rfl,n,rfl⟩
   go_wp2_with fail
   refine(HTk2.out n).mono ?_
   rintro e w2 ⟨⟨t2,rfl⟩,hts2,hb2,hk2⟩
   have HT2:Hid (TS B P L tv iv w2 {p with pos:=x1+m}∧Below B w w2∧w2.heap[Q]? =some (.cells #[.pointer (some ⟨P,0,none⟩)] 81 (0,0))∧∀ g:Nat,g<Q→g≠P→w2.heap[g]? =w.heap[g]?):=⟨hts2,(below_drewN HT1.out.2.1 n).trans hb2,(hk2 Q HPQ.out).trans HT1.out.2.2.1,fun g hg hp=>(hk2 g hp).trans (HT1.out.2.2.2 g hg hp)⟩
   clear hts2 hb2 hk2
   go_wp2
   refine⟨⟨x1+m,by omega,HE.out.trans HGo'.out,HT2⟩,?_⟩
   rw[HT2.out.1.posOf,HT.out.1.posOf]
   show L.length-(x1+m)<L.length-x
   omega
  ·rw[show decide ((L.getD x1 0).toNat=35)=false from by simpa using hsee]at HSe
   have HEnd:Hid (p.pos+skp p.opn L.length (L.drop p.pos)=x1):=HE.out.trans (HST.out hsee)
   clear hsee HGO HST
   go_wp2_with fail
   refine HSe.out.mono ?_
   rintro e w' ⟨rfl,n,rfl⟩
   go_wp2
   refine bodyPost_ret (results_none rfl _ _ _) rfl ?_
   refine⟨rfl,?_,below_drewN HT1.out.2.1 n,fun g hg hp=>HT1.out.2.2.2 g hg hp⟩
   rw[HEnd.out]
   exact HT1.out.1.drewN n
theorem ics_get (l:List Nat)(j:Nat)(hj:j<l.length):(ics l)[j]? =some (.int .i64 (l[j]:Nat)):=by simp[ics,hj]
def IdxP (b:Bool)(e:Ending):Prop:=∃ z:Int,(b=false→z=-1)∧(b=true→0≤z)∧e= .returned (.int .i64 z)
theorem contains_any (g cap:Nat)(l:List Nat)(x:Nat)(W:World)(h0:0<l.length)(hl:l.length≤1000000)(hc:∀ j (hj:j<l.length),W.cell? ⟨g,j,none⟩=some (.int .i64 (l[j]:Nat)))(b:Bool)(hb:b=true↔x∈l):
  Calls Tryz.prog 94 #[.slice (some ⟨g,0,none⟩) l.length cap,.int .i64 x] W fun e w'=>e= .returned (.bool b)∧w'=W:=by
 have HC:Hid (∀ j (hj:j<l.length),W.cell? ⟨g,j,none⟩=some (.int .i64 (l[j]:Nat))):=hc
 have HB:Hid (b=true↔x∈l):=hb
 have HI:Hid (Calls Tryz.prog 119 #[.slice (some ⟨g,0,none⟩) l.length cap,.int .i64 x] W fun e w'=>IdxP b e∧w'=W):=by
  clear hc hb
  go_enter Tryz.func119,Tryz.ntmps119
  go_wp2
  go_loop [8] (fun i=>∃ k:Nat,k≤l.length∧i= .int .i64 k∧Hid (x∉l.take k)) (fun i=>l.length-(intOf i).toNat)
  case atStart=>exact⟨0,Nat.zero_le _,rfl,by show _∉_;simp⟩
  case round=>
   obtain⟨k,hk,rfl,HK⟩:=hrel
   by_cases hlt:k<l.length
   ·have hki:(k:Int)<(l.length:Int):=by omega
    have ck:=HC.out k hlt
    by_cases he:x=l[k]
    ·have hq:((x:Int)==(l[k]:Int))=true:=by simp[he]
     have HBT:Hid (b=true):=HB.out.2 (by rw[he];exact List.getElem_mem hlt)
     generalize l[k]=y at *
     clear he
     go_wp2
     go_ret
     exact⟨⟨(k:Int),fun h=>(by rw[HBT.out]at h;cases h),fun _=>by omega,rfl⟩,rfl⟩
    ·have hq:((x:Int)==(l[k]:Int))=false:=beq_eq_false_iff_ne.2 (by omega)
     have HN:Hid (x∉l.take (k+1)):=by
      show _∉_
      rw[List.take_succ_eq_append_getElem hlt,List.mem_append]
      rintro(h|h)
      ·exact HK.out h
      ·simp at h;exact he h
     generalize l[k]=y at *
     clear he
     go_wp2
     refine⟨⟨k+1,by omega,by go_num,HN⟩,by simp[intOf];omega⟩
   ·obtain rfl:k=l.length:=by omega
    have HBF:Hid (¬b=true):=fun h=>by
     have:=HK.out
     rw[List.take_length]at this
     exact this (HB.out.1 h)
    go_wp2
    go_ret
    exact⟨⟨-1,fun _=>rfl,fun h=>absurd h HBF.out,rfl⟩,rfl⟩
 clear hc hb HC
 go_enter Tryz.func94,Tryz.ntmps94
 go_wp2_with fail
 refine HI.out.mono ?_
 rintro e w' ⟨⟨z,hz1,hz2,rfl⟩,rfl⟩
 cases b with
 |true=>
  have hz3:=hz2 rfl
  clear hz1 hz2
  go_wp2
  go_ret
  exact⟨ret_b (by simp),rfl⟩
 |false=>
  have hz3:z=-1:=hz1 rfl
  subst hz3
  clear hz1 hz2
  go_wp2
  go_ret
  exact⟨rfl,rfl⟩
theorem rv0 {b1 b2 bm b3 b4 b5:Bool}{oo i tp nn R:Nat}(H:(R=if b1=false∨(b2=true∧oo=0)then 1 else if i<tp∧bm=false then 4 else if b3=true∧b4=true then 3 else if(b5=true∧oo=30)∨(tp<i∧30<nn)then 2 else 0))(c1:(!b1)=false)(c2:¬b2=true∨((oo:Int)==0)=false)(c3:¬i<tp∨(!bm)=false)(c4:¬b3=true∨b4=false)(c5:¬b5=true∨((oo:Int)==30)=false)(c6:¬tp<i∨(nn:Int)≤30):R=0:=by
 rw[H,if_neg (show ¬(b1=false∨(b2=true∧oo=0))from by rintro(h|⟨h,h'⟩);(· rw[h]at c1;cases c1);rcases c2 with c|c;(· exact c h);rw[h']at c;cases c),if_neg (show ¬(i<tp∧bm=false)from by rintro⟨h,h'⟩;rcases c3 with c|c;(· exact c h);rw[h']at c;cases c),if_neg (show ¬(b3=true∧b4=true)from by rintro⟨h,h'⟩;rcases c4 with c|c;(· exact c h);rw[h']at c;cases c),if_neg (show ¬((b5=true∧oo=30)∨(tp<i∧30<nn))from by rintro(⟨h,h'⟩|⟨h,h'⟩);(· rcases c5 with c|c;(· exact c h);rw[h']at c;cases c);rcases c6 with c|c;(· exact c h);omega)]
theorem rv1a {b1 b2 bm b3 b4 b5:Bool}{oo i tp nn R:Nat}(H:(R=if b1=false∨(b2=true∧oo=0)then 1 else if i<tp∧bm=false then 4 else if b3=true∧b4=true then 3 else if(b5=true∧oo=30)∨(tp<i∧30<nn)then 2 else 0))(h:(!b1)=true):R=1:=by
 rw[H,if_pos (Or.inl (by simpa using h))]
theorem rv1b {b1 b2 bm b3 b4 b5:Bool}{oo i tp nn R:Nat}(H:(R=if b1=false∨(b2=true∧oo=0)then 1 else if i<tp∧bm=false then 4 else if b3=true∧b4=true then 3 else if(b5=true∧oo=30)∨(tp<i∧30<nn)then 2 else 0))(h:b2=true)(h':((oo:Int)==0)=true):R=1:=by
 rw[H,if_pos (Or.inr ⟨h,by simpa using h'⟩)]
theorem rv4 {b1 b2 bm b3 b4 b5:Bool}{oo i tp nn R:Nat}(H:(R=if b1=false∨(b2=true∧oo=0)then 1 else if i<tp∧bm=false then 4 else if b3=true∧b4=true then 3 else if(b5=true∧oo=30)∨(tp<i∧30<nn)then 2 else 0))(c1:(!b1)=false)(c2:¬b2=true∨((oo:Int)==0)=false)(h:i<tp)(h':(!bm)=true):R=4:=by
 rw[H,if_neg (show ¬(b1=false∨(b2=true∧oo=0))from by rintro(h|⟨h,h'⟩);(· rw[h]at c1;cases c1);rcases c2 with c|c;(· exact c h);rw[h']at c;cases c),if_pos ⟨h,by simpa using h'⟩]
theorem rv3 {b1 b2 bm b3 b4 b5:Bool}{oo i tp nn R:Nat}(H:(R=if b1=false∨(b2=true∧oo=0)then 1 else if i<tp∧bm=false then 4 else if b3=true∧b4=true then 3 else if(b5=true∧oo=30)∨(tp<i∧30<nn)then 2 else 0))(c1:(!b1)=false)(c2:¬b2=true∨((oo:Int)==0)=false)(c3:¬i<tp∨(!bm)=false)(h:b3=true)(h':b4=true):R=3:=by
 rw[H,if_neg (show ¬(b1=false∨(b2=true∧oo=0))from by rintro(h|⟨h,h'⟩);(· rw[h]at c1;cases c1);rcases c2 with c|c;(· exact c h);rw[h']at c;cases c),if_neg (show ¬(i<tp∧bm=false)from by rintro⟨h,h'⟩;rcases c3 with c|c;(· exact c h);rw[h']at c;cases c),if_pos ⟨h,h'⟩]
theorem rv2a {b1 b2 bm b3 b4 b5:Bool}{oo i tp nn R:Nat}(H:(R=if b1=false∨(b2=true∧oo=0)then 1 else if i<tp∧bm=false then 4 else if b3=true∧b4=true then 3 else if(b5=true∧oo=30)∨(tp<i∧30<nn)then 2 else 0))(c1:(!b1)=false)(c2:¬b2=true∨((oo:Int)==0)=false)(c3:¬i<tp∨(!bm)=false)(c4:¬b3=true∨b4=false)(h:b5=true)(h':((oo:Int)==30)=true):R=2:=by
 rw[H,if_neg (show ¬(b1=false∨(b2=true∧oo=0))from by rintro(h|⟨h,h'⟩);(· rw[h]at c1;cases c1);rcases c2 with c|c;(· exact c h);rw[h']at c;cases c),if_neg (show ¬(i<tp∧bm=false)from by rintro⟨h,h'⟩;rcases c3 with c|c;(· exact c h);rw[h']at c;cases c),if_neg (show ¬(b3=true∧b4=true)from by rintro⟨h,h'⟩;rcases c4 with c|c;(· exact c h);rw[h']at c;cases c),if_pos (Or.inl ⟨h,by have h9:(oo:Int)=30:=(by simpa using h');omega⟩)]
theorem rv2b {b1 b2 bm b3 b4 b5:Bool}{oo i tp nn R:Nat}(H:(R=if b1=false∨(b2=true∧oo=0)then 1 else if i<tp∧bm=false then 4 else if b3=true∧b4=true then 3 else if(b5=true∧oo=30)∨(tp<i∧30<nn)then 2 else 0))(c1:(!b1)=false)(c2:¬b2=true∨((oo:Int)==0)=false)(c3:¬i<tp∨(!bm)=false)(c4:¬b3=true∨b4=false)(h:tp<i)(h':(30:Int)<(nn:Int)):R=2:=by
 rw[H,if_neg (show ¬(b1=false∨(b2=true∧oo=0))from by rintro(h|⟨h,h'⟩);(· rw[h]at c1;cases c1);rcases c2 with c|c;(· exact c h);rw[h']at c;cases c),if_neg (show ¬(i<tp∧bm=false)from by rintro⟨h,h'⟩;rcases c3 with c|c;(· exact c h);rw[h']at c;cases c),if_neg (show ¬(b3=true∧b4=true)from by rintro⟨h,h'⟩;rcases c4 with c|c;(· exact c h);rw[h']at c;cases c),if_pos (Or.inr ⟨h,by omega⟩)]
def RefP (r x:Nat)(e:Ending):Prop:=(r=0→e= .returned (.tuple #[]))∧(r≠0→e=PF r x)
theorem refuse_any {B P:Nat}{L:List UInt8}{tv iv:Value}{w:World}{p:Sp}(h:TS B P L tv iv w p)(hL:L.length≤6000)(hp:p.pos<L.length)(i:Nat)(hn0:0<p.ins.length)(hn:p.ins.length≤1000)(hr:ErrR w):
  Calls Tryz.prog 62 #[.pointer (some ⟨P,0,none⟩),.int .i64 i] w fun e w'=>RefP (refu L p i) p.pos e∧Below w.heap.size w w':=by
 have hrl:0<(L.drop p.pos).length:=by rw[List.length_drop];omega
 have hrl2:(L.drop p.pos).length≤1000000:=by rw[List.length_drop];omega
 have HRe:Hid (∀ W,Below w.heap.size w W→Calls Tryz.prog 92 #[.pointer (some ⟨P,0,none⟩)] W fun e w'=>e= .returned (.string (mkB (L.drop p.pos)))∧Below w.heap.size w w'):=fun W hW=>(rest_any (h.up hW) (by omega)).mono fun e w' ⟨a,n,b⟩=>⟨a,by rw[b];exact below_drewN hW n⟩
 have HBe:Hid (∀ W,Calls Tryz.prog 91 #[.string (mkB (L.drop p.pos))] W fun e w'=>e= .returned (.bool (beg (L.drop p.pos)))∧w'=W):=fun W=>begins_any _ W hrl hrl2
 have HCl:Hid (∀ W,Calls Tryz.prog 93 #[.int .u8 (L.getD p.pos 0).toNat] W fun e w'=>e= .returned (.bool (isCls (L.getD p.pos 0)))∧w'=W):=fun W=>isClosing_any _ W
 have HOp:Hid (∀ W,Calls Tryz.prog 97 #[.int .u8 (L.getD p.pos 0).toNat] W fun e w'=>e= .returned (.bool (isOpn (L.getD p.pos 0)))∧w'=W):=fun W=>isOpening_any _ W
 have HDg:Hid (∀ W,Calls Tryz.prog 95 #[.int .u8 (L.getD p.pos 0).toNat] W fun e w'=>e= .returned (.bool (isDg (L.getD p.pos 0)))∧w'=W):=fun W=>isDigit_any _ W
 have HIn:Hid (∀ W,Below w.heap.size w W→Calls Tryz.prog 64 #[.pointer (some ⟨P,0,none⟩)] W fun e w'=>e= .returned (.int .i64 p.top)∧Below w.heap.size w w'):=fun W hW=>(in_any (h.up hW) hn0 (by omega)).mono fun e w' ⟨a,n,b⟩=>⟨a,by rw[b];exact below_drewN hW n⟩
 have HNI:Hid (isDg (L.getD p.pos 0)=true→∀ W,Below w.heap.size w W→Calls Tryz.prog 96 #[.string (mkB (L.drop p.pos))] W fun e w'=>e= .returned (.bool (noInt (L.drop p.pos)))∧Below w.heap.size w w'):=fun hd W hW=>(isNoInt_any _ W hrl hrl2 (by rw[at_drop];exact hd) (hr.up hW)).mono fun e w' ⟨a,b⟩=>⟨a,hW.trans (b.mono hW.size)⟩
 have HGu:Hid (∀ W,Below w.heap.size w W→∀ k:Int,Calls Tryz.prog 65 #[.pointer (some ⟨P,0,none⟩),.int .i64 k] W fun e w'=>e=PF k p.pos∧w'=W):=fun W hW k=>giveUp_any (h.up hW) k
 obtain⟨g,cap,hv,hg1,hg2⟩:=h.oi.form hn0
 subst hv
 obtain⟨bm,hbm⟩:∃ bm:Bool,(bm=true↔i∈p.ins):=⟨decide (i∈p.ins),by simp⟩
 have HCo:Hid (∀ W,Below w.heap.size w W→Calls Tryz.prog 94 #[.slice (some ⟨g,0,none⟩) p.ins.length cap,.int .i64 i] W fun e w'=>e= .returned (.bool bm)∧w'=W):=fun W hW=>by
  have:=contains_any g cap p.ins.reverse i W (by simpa using hn0) (by simp;omega) (fun j hj=>(((h.up hW).oi.cellAt j (by simpa using hj))).trans (ics_get _ j hj)) bm (by rw[hbm];simp)
  simpa using this
 have HC:Hid (∀ W,Below w.heap.size w W→W.cell? ⟨P,0,none⟩=some (.string (mkB L))∧W.cell? ⟨P,1,none⟩=some (.int .i64 p.pos)∧W.cell? ⟨P,3,none⟩=some (.slice (some ⟨g,0,none⟩) p.ins.length cap)∧W.cell? ⟨P,4,none⟩=some (.int .i64 p.opn)):=fun W hW=>⟨(h.up hW).c0,(h.up hW).c1,(h.up hW).c3,(h.up hW).c4⟩
 have hru:refu L p i=if beg (L.drop p.pos)=false∨(isCls (L.getD p.pos 0)=true∧p.opn=0)then 1 else if i<p.top∧bm=false then 4 else if isDg (L.getD p.pos 0)=true∧noInt (L.drop p.pos)=true then 3 else if(isOpn (L.getD p.pos 0)=true∧p.opn=30)∨(p.top<i∧30<p.ins.length)then 2 else 0:=by
  unfold refu
  simp only[at_drop]
  have:(i∉p.ins)↔bm=false:=by rw[←hbm];simp
  simp only[this]
 obtain⟨R,hR⟩:∃ R,R=refu L p i:=⟨_,rfl⟩
 rw[←hR]
 rw[←hR]at hru
 have hsz:=mk_size L
 have hs0:p.pos<(mkB L).size:=by rw[hsz];exact hp
 have hg:=mk_get L p.pos hs0
 have hpi:(p.pos:Int)<(L.length:Int):=by omega
 have hk0:Below w.heap.size w w:=Below.refl _ _
 obtain⟨d0,d1,d3,d4⟩:=HC.out _ hk0
 generalize mkB (L.drop p.pos)=rs at *
 generalize beg (L.drop p.pos)=b1 at *
 generalize noInt (L.drop p.pos)=b4 at *
 generalize isCls (L.getD p.pos 0)=b2 at *
 generalize isDg (L.getD p.pos 0)=b3 at *
 generalize isOpn (L.getD p.pos 0)=b5 at *
 generalize L.getD p.pos 0=c0 at *
 generalize p.top=tp at *
 generalize p.ins.length=nn at *
 generalize p.opn=oo at *
 generalize p.pos=xx at *
 have HRU:Hid (R=if b1=false∨(b2=true∧oo=0)then 1 else if i<tp∧bm=false then 4 else if b3=true∧b4=true then 3 else if(b5=true∧oo=30)∨(tp<i∧30<nn)then 2 else 0):=hru
 clear h hr hbm hru hrl hrl2 hg1 hg2 hR
 go_enter Tryz.func62,Tryz.ntmps62
 go_wp2
 go_quiet (fail)
 have hk1:Below w.heap.size w (w.drewN nq):=below_drewN hk0 nq
 obtain⟨e0,e1,e3,e4⟩:=HC.out _ hk1
 go_wp2_with (first
  |(go_at_call 92;refine(HRe.out _ (by assumption)).mono ?_;rintro e w1 ⟨rfl,hkr⟩;obtain⟨r0,r1,r3,r4⟩:=HC.out _ hkr)
  |(go_at_call 91;refine(HBe.out _).mono ?_;rintro e w' ⟨rfl,rfl⟩)
  |(go_at_call 93;refine(HCl.out _).mono ?_;rintro e w' ⟨rfl,rfl⟩)
  |(go_at_call 97;refine(HOp.out _).mono ?_;rintro e w' ⟨rfl,rfl⟩)
  |(go_at_call 95;refine(HDg.out _).mono ?_;rintro e w' ⟨rfl,rfl⟩)
  |(go_at_call 64;refine(HIn.out _ (by assumption)).mono ?_;rintro e w2 ⟨rfl,hki⟩;obtain⟨s0,s1,s3,s4⟩:=HC.out _ hki)
  |(go_at_call 94;refine(HCo.out _ (by assumption)).mono ?_;rintro e w' ⟨rfl,rfl⟩)
  |(go_at_call 96;refine(HNI.out (by assumption) _ (by assumption)).mono ?_;rintro e w3 ⟨rfl,hkn⟩;obtain⟨t0,t1,t3,t4⟩:=HC.out _ hkn)
  |(go_at_call 65;refine(HGu.out _ (by assumption) _).mono ?_;rintro e w' ⟨rfl,rfl⟩)
  |fail)
 all_goals have HRV:=HRU.out
 all_goals clear HRU
 all_goals first
  |(exfalso;have h1:(!b1)=true:=(by assumption);have h2:(!b1)=false:=(by assumption);rw[h1]at h2;cases h2)
  |(have hR:R=0:=rv0 HRV (by assumption) (by first|exact Or.inl (by assumption)|exact Or.inr (by assumption)) (by first|exact Or.inl (by assumption)|exact Or.inr (by assumption)) (by first|exact Or.inl (by assumption)|exact Or.inr (by assumption)) (by first|exact Or.inl (by assumption)|exact Or.inr (by assumption)) (by first|exact Or.inl (by assumption)|exact Or.inr (by assumption));subst hR;go_end0;exact⟨⟨fun _=>rfl,fun h=>absurd rfl h⟩,by assumption⟩)
  |(have hR:R=_:=rv1a HRV (by assumption);subst hR;exact⟨rfl,⟨fun h=>(by cases h),fun _=>rfl⟩,by assumption⟩)
  |(have hR:R=_:=rv1b HRV (by assumption) (by assumption);subst hR;exact⟨rfl,⟨fun h=>(by cases h),fun _=>rfl⟩,by assumption⟩)
  |(have hR:R=_:=rv4 HRV (by assumption) (by first|exact Or.inl (by assumption)|exact Or.inr (by assumption)) (by assumption) (by assumption);subst hR;exact⟨rfl,⟨fun h=>(by cases h),fun _=>rfl⟩,by assumption⟩)
  |(have hR:R=_:=rv3 HRV (by assumption) (by first|exact Or.inl (by assumption)|exact Or.inr (by assumption)) (by first|exact Or.inl (by assumption)|exact Or.inr (by assumption)) (by assumption) (by assumption);subst hR;exact⟨rfl,⟨fun h=>(by cases h),fun _=>rfl⟩,by assumption⟩)
  |(have hR:R=_:=rv2a HRV (by assumption) (by first|exact Or.inl (by assumption)|exact Or.inr (by assumption)) (by first|exact Or.inl (by assumption)|exact Or.inr (by assumption)) (by first|exact Or.inl (by assumption)|exact Or.inr (by assumption)) (by assumption) (by assumption);subst hR;exact⟨rfl,⟨fun h=>(by cases h),fun _=>rfl⟩,by assumption⟩)
  |(have hR:R=_:=rv2b HRV (by assumption) (by first|exact Or.inl (by assumption)|exact Or.inr (by assumption)) (by first|exact Or.inl (by assumption)|exact Or.inr (by assumption)) (by first|exact Or.inl (by assumption)|exact Or.inr (by assumption)) (by assumption) (by assumption);subst hR;exact⟨rfl,⟨fun h=>(by cases h),fun _=>rfl⟩,by assumption⟩)
end Go.Proofs.YtcaeeackccgclaaGreatDoor
