/- 39. -/
import Derived.Test.YtcaeeackccgclaaGreatDoorTx38
set_option maxHeartbeats 40000000
set_option maxRecDepth 100000
namespace Go.Proofs.YtcaeeackccgclaaGreatDoor
open Go.RowKit Go.Shelf
attribute [local go_sem] mk_func2
theorem load1_w {B b wb tb g m cap k:Nat}{z:Int}{l:List UInt8}{W:World}{t:List UInt8}(h:WrIs B b z (Lib.byteCells l) W)(hB:B≤W.heap.size)(hw:W.cell? ⟨wb,0,none⟩=some (pt b))(ht:W.cell? ⟨tb,0,none⟩=some (.slice (some ⟨g,0,none⟩) m cap))(hk:k<m)(hc:W.cell? ⟨g,k,none⟩=some (.string (mkB t)))(hlen:l.length+(qtL t).length≤1000000000):
  Calls Tryz.prog 59 #[.int .i64 k,pt wb,pt tb] W (WpO B b z (l++qtL t) W):=by
 have hqg:=qt_ge t
 have hql:(qtL t).length=(t.flatMap qt1).length+2:=by simp[qtL]
 have hki:(k:Int)<(m:Int):=by omega
 have HT:Hid (Calls Tryz.prog _ _ _ _):=wtext_any B b z l (mkB t) W.drew h (by rw[mk_size];omega) hB
 clear h hqg hql hlen
 go_enter Tryz.func59,Tryz.ntmps59
 go_wp2_with fail
 go_region_with (first
  |(go_at_call 56;refine HT.out.mono ?_;rintro e w2 ⟨rfl,h2⟩)
  |fail)
 all_goals
  go_wp2
  go_end0
  exact⟨rfl,h2.out.1,h2.out.2.un,Nat.le_trans hB h2.out.2.un.size⟩
theorem load_w {B b:Nat}{z:Int}{l:List UInt8}{S:Nat→Prop}{x:Sm}{q:Sh}{w:World}(h:Ws B b z l S x q w)(hne:x.names≠[])(hlen:l.length+6+(jT true ((x.text::x.names).map qtL)).length≤1000000000):
  Calls Tryz.prog 40 #[pt b,.agg (ta x q)] w (WpO B b z (l++[108,111,97,100,40]++jT true ((x.text::x.names).map qtL)++[41]) w):=by
 obtain⟨W0,hW0⟩:∃ W0,W0=(w.alloc (.cells #[pt b] 54)).alloc (.cells (ta x q) 40):=⟨_,rfl⟩
 obtain⟨W1,hW1⟩:∃ W1,W1=W0.alloc (.cells #[.string (mkB x.text)] 9):=⟨_,rfl⟩
 have hbl:=h.wr.lt
 have hBs:=h.size
 have s0:(w.alloc (.cells #[pt b] 54)).heap.size=w.heap.size+1:=World.size_alloc _ _
 have s1:W0.heap.size=w.heap.size+2:=by rw[hW0,World.size_alloc,s0]
 have s2:W1.heap.size=w.heap.size+3:=by rw[hW1,World.size_alloc,s1]
 have hX0:Ws B b z l S x q W0:=by rw[hW0];exact(h.al _).al _
 have hX1:Ws B b z l S x q W1:=by rw[hW1];exact hX0.al _
 have k1:Kp B b w W1:=by rw[hW1,hW0];exact((Kp.al b hBs _).trans (Kp.al b (by omega) _)).trans (Kp.al b (by rw[World.size_alloc];omega) _)
 have o1:∀ g,g<w.heap.size+2→W1.heap[g]? =W0.heap[g]? :=fun g hg=>by rw[hW1];exact heap_al _ _ _ (by omega)
 have e0:W1.heap[w.heap.size]? =some (.cells #[pt b] 54 (0,0)):=by
  rw[o1 _ (by omega),hW0]
  exact(heap_al _ _ _ (by omega)).trans (heap_alloc_new w _)
 have e1:W1.heap[w.heap.size+1]? =some (.cells (ta x q) 40 (0,0)):=by
  have:=heap_alloc_new (w.alloc (.cells #[pt b] 54)) (.cells (ta x q) 40)
  rw[s0]at this
  rw[o1 _ (by omega),hW0]
  exact this
 have e2:W1.heap[w.heap.size+2]? =some (.cells #[.string (mkB x.text)] 9 (0,0)):=by
  rw[hW1,←s1]
  exact heap_alloc_new W0 _
 obtain⟨hrow,hown⟩:=hX1.sm.parts.2.1
 obtain⟨gn,cap,ev,hcap,hcell⟩:=row_form hrow (List.length_pos_iff.2 hne)
 injection ev with ea eb ec
 have hgn:gn<W1.heap.size:=(hrow.lt gn (by rw[ea];rfl)).2
 have hr1:W1.ownsRow (w.heap.size+2) 9 1 (.slice (some ⟨w.heap.size+2,0,none⟩) 1 1) 1 [.string (mkB x.text)]:=⟨rfl,.inr ⟨w.heap.size+2,1,#[.string (mkB x.text)],rfl,Nat.le_refl _,e2,Nat.le_refl _,by unfold maxLen;decide,rfl,rfl⟩⟩
 have hnl:x.names.length+1≤1000000000:=by
  have:=jT_len qtL (x.text::x.names) fun t _=>(by simp[qtL])
  rw[List.length_cons]at this
  omega
 have HL:Hid (∀ (g cap:Nat) (w1:World),w1.ownsRow (w.heap.size+2) 9 1 (.slice (some ⟨g,0,none⟩) (1+x.names.length) cap) (1+x.names.length) ([.string (mkB x.text)]++x.names.map sv)→W1.grownBy w1 (some (w.heap.size+2))→(some (w.heap.size+2)=some g∨g=w.heap.size+3)→g<w1.heap.size→((w1.alloc (.cells #[.slice (some ⟨g,0,none⟩) (1+x.names.length) cap] 35)).cell? ⟨w.heap.size,0,none⟩=some (pt b)∧(w1.alloc (.cells #[.slice (some ⟨g,0,none⟩) (1+x.names.length) cap] 35)).cell? ⟨w1.heap.size,0,none⟩=some (.slice (some ⟨g,0,none⟩) (1+x.names.length) cap))∧Kp B b w (w1.alloc (.cells #[.slice (some ⟨g,0,none⟩) (1+x.names.length) cap] 35))∧Calls Tryz.prog 58 #[pt b,.string ⟨#[108,111,97,100,40]⟩,.int .i64 (1+x.names.length:Nat),.string ⟨#[41]⟩,.func (.func 59) #[] #[pt w.heap.size,pt w1.heap.size]] (w1.alloc (.cells #[.slice (some ⟨g,0,none⟩) (1+x.names.length) cap] 35)) (WpO B b z (l++[108,111,97,100,40]++jT true ((x.text::x.names).map qtL)++[41]) (w1.alloc (.cells #[.slice (some ⟨g,0,none⟩) (1+x.names.length) cap] 35)))):=by
  intro g cap w1 hr hgr hat hgl
  have hsz:=hgr.size
  have old:∀ i,i<w.heap.size+2→w1.heap[i]? =W1.heap[i]? :=fun i hi=>hgr.block i (by omega) (fun e=>by injection e with e;omega)
  have kw:Kp B b w w1:=⟨k1.1.trans ⟨hgr.os,hgr.tape,hgr.output,hgr.size,fun i hi=>old i (by omega)⟩,fun i o hi hib hio=>(old i (by have:=(Array.getElem?_eq_some_iff.1 hi).1;omega)).trans (k1.2 i o hi hib hio)⟩
  obtain⟨W2,hW2⟩:∃ W2,W2=w1.alloc (.cells #[.slice (some ⟨g,0,none⟩) (1+x.names.length) cap] 35):=⟨_,rfl⟩
  have k2:Kp B b w W2:=by rw[hW2];exact kw.trans (Kp.al b (by omega) _)
  have o2:∀ i,i<w1.heap.size→W2.heap[i]? =w1.heap[i]? :=fun i hi=>by rw[hW2];exact heap_al _ _ _ hi
  have f0:W2.heap[w.heap.size]? =some (.cells #[pt b] 54 (0,0)):=(o2 _ (by omega)).trans ((old _ (by omega)).trans e0)
  have f1:W2.heap[w1.heap.size]? =some (.cells #[.slice (some ⟨g,0,none⟩) (1+x.names.length) cap] 35 (0,0)):=by rw[hW2];exact heap_alloc_new w1 _
  have hwW:WrIs B b z (Lib.byteCells l) W2:=h.wr.up fun i hi=>(o2 _ (by omega)).trans ((old i (by omega)).trans ((o1 i (by omega)).trans (by rw[hW0];exact(heap_al _ _ _ (by omega)).trans (heap_al _ _ _ hi))))
  have hbW:B≤W2.heap.size:=Nat.le_trans hBs k2.1.size
  obtain⟨cur,hcur,hcells⟩:∃ cur,W2.heap[g]? =some (.cells cur 9 (0,0))∧∀ j,j<1+x.names.length→cur[j]? =([.string (mkB x.text)]++x.names.map sv)[j]? :=by
   rcases hr.2 with⟨hv,_⟩|⟨g',cap',cur,hv,_,hgg,_,_,_,htk⟩
   ·cases hv
   ·cases hv
    refine⟨cur,(o2 g hgl).trans hgg,fun j hj=>?_⟩
    rw[←htk,List.getElem?_take_of_lt (by omega)]
    simp
  have hgb:g≠b:=by
   rcases hat with e|e
   ·injection e with e
    omega
   ·omega
  rw[←hW2]
  refine⟨⟨box_of f0,box_of f1⟩,k2,?_⟩
  have hol:((x.text::x.names).map qtL).length=1+x.names.length:=by rw[List.length_map,List.length_cons,Nat.add_comm]
  rw[←hol]
  refine listed_w (op:=[108,111,97,100,40]) (cl:=[41]) 59 #[pt w.heap.size,pt w1.heap.size] (enters_of Tryz.func59 (by kernel_rfl) rfl) hwW hbW (by omega) (by show l.length+5+_+1≤_;omega) fun k hk V l' hkV hV hBV hl2=>?_
  have hkx:k<(x.text::x.names).length:=by rw[List.length_map]at hk;exact hk
  have eo:((x.text::x.names).map qtL)[k]=qtL (x.text::x.names)[k]:=by rw[List.getElem_map]
  rw[eo]at hl2 ⊢
  have hkn:k<1+x.names.length:=by rw[←hol];exact hk
  refine load1_w (m:=1+x.names.length) (cap:=cap) (g:=g) hV hBV (box_of (hkV.other f0 (by omega) (by decide))) (box_of (hkV.other f1 (by omega) (by decide))) hkn ?_ hl2
  rw[Lib.cell_of_heap (hkV.other hcur hgb (by decide))]
  rw[hcells k hkn]
  have hsv:([Value.string (mkB x.text)]++x.names.map sv)=(x.text::x.names).map sv:=rfl
  rw[hsv,List.getElem?_map,List.getElem?_eq_getElem hkx]
  rfl
 have hnews:∀ (j:Nat) (u:Value),(x.names.map sv)[j]? =some u→W1.cell? ((⟨gn,0,none⟩:Addr).add j)=some u:=fun j u hu=>by
  rw[add0,hcell j (by have:=(List.getElem?_eq_some_iff.1 hu).1;rw[List.length_map]at this;omega)]
  exact hu
 have hone:∀ u∈x.names.map sv,u.oneCell'=true:=fun u hu=>by
  obtain⟨t,_,rfl⟩:=List.mem_map.1 hu
  rfl
 have infN:(Tryz.prog.info? 9).map (fun i=>(i.zero,i.size,i.bytes))=some (some (.string ⟨#[]⟩),1,16):=by kernel_rfl
 obtain⟨i0,hi,hz0,hz1,hz2⟩:=info_p infN
 obtain⟨u0,u1,u2,u3,u4,u5,u6,u7,u8,u9⟩:=(ten_of e1).at0
 have HR:Hid (W1.ownsRow (w.heap.size+2) 9 1 (.slice (some ⟨w.heap.size+2,0,none⟩) 1 1) 1 [.string (mkB x.text)]):=hr1
 have hn0:0<x.names.length:=List.length_pos_iff.2 hne
 have hWs:W1.heap.size=w.heap.size+3:=s2
 have hml:1+x.names.length≤maxLen:=by unfold maxLen;omega
 have hx3:(1+x.names.length)*16≤140737488355328:=by omega
 have EA:Hid (q.a0=some ⟨gn,0,none⟩):=ea
 clear ea eb ec h hX0 hX1 k1 o1 e0 e1 e2 hrow hown hcell hgn hr1 hnl hBs s0 s1 s2 hbl hlen hne
 subst hW0
 subst hW1
 unfold ta at *
 go_enter Tryz.func40,Tryz.ntmps40
 go_wp2_with (at_builtin;refine wpList_append_lies _ rfl _ _ 35 rfl (w.heap.size+2) 9 i0 (.string ⟨#[]⟩) 1 16 Tryz.underlying35 hi hz0 hz1 hz2 rfl (by decide) _ 1 [.string (mkB x.text)] rfl HR.out ⟨gn,0,none⟩ x.names.length q.c0 (x.names.map sv) ?x1 (by simp) hnews hone hn0 hml hx3 ?x4 (w.heap.size+3) ?x5 ?_)
 case x1=>show Value.slice q.a0 _ _=_;rw[EA.out]
 case x4=>exact Nat.le_trans (Nat.le_succ _) (Nat.le_of_eq hWs.symm)
 case x5=>exact hWs
 intro g1 cap1 w1 h1 h2 h3 h4
 obtain⟨⟨v0,v1⟩,hk2,HL2⟩:=HL.out g1 cap1 w1 h1 h2 h3 h4
 have HK2:Hid (Kp B b w _):=hk2
 clear h1 h2 h3 h4 HL HR hnews hone hk2
 go_wp2_with fail
 refine HL2.mono ?_
 rintro e w2 ⟨rfl,h2,hk2,hB2⟩
 go_wp2
 go_end0
 exact⟨rfl,h2,HK2.out.trans hk2,hB2⟩
end Go.Proofs.YtcaeeackccgclaaGreatDoor
namespace Go.Proofs.YtcaeeackccgclaaGreatDoor
open Go.RowKit Go.Shelf
abbrev Ky:=Nat×List UInt8×Nat
def Ps.fwd (p:Ps)(k:Nat):Ps:={p with toks:=p.toks.drop k}
theorem fwd_fwd (p:Ps)(a b:Nat):(p.fwd a).fwd b=p.fwd (a+b):=by
 show(⟨(p.toks.drop a).drop b,_,_,_,_⟩:Ps)=_
 rw[List.drop_drop]
 rfl
theorem adv_fwd (p:Ps):p.adv=p.fwd 1:=rfl
def PE {α:Type}(m:Px α)(a:α)(q:Ps):Prop:=m=ok a q∨∃ z,m=some (.error (2,z))
theorem pe_ok {α:Type}(a:α)(q:Ps):PE (ok a q) a q:= .inl rfl
theorem pe_bnd {α β:Type}{m:Px α}{f:α→Ps→Px β}{a:α}{q r:Ps}{b:β}(h:PE m a q)(hf:PE (f a q) b r):PE (bnd m f) b r:=by
 rcases h with h|⟨z,h⟩
 ·rw[h]
  exact hf
 ·rw[h]
  exact .inr ⟨z,rfl⟩
theorem pe_iff {α:Type}{b:Bool}{m:Px α}{a:α}{q:Ps}(hb:b=true)(h:PE m a q):PE (iff b m) a q:=by
 rw[hb]
 exact h
def Ps.ks (p:Ps):List Ky:=p.toks.map tkey
theorem ks_fwd {p:Ps}{a b:List Ky}(h:p.ks=a++b):(p.fwd a.length).ks=b:=by
 show(p.toks.drop a.length).map tkey=b
 rw[List.map_drop]
 have:p.toks.map tkey=a++b:=h
 rw[this,List.drop_left]
theorem nx_key {p:Ps}{k:Ky}{r:List Ky}(h:p.ks=k::r):p.nx.kind=k.1∧p.nx.text=k.2.1∧p.nx.num=k.2.2:=by
 obtain⟨toks,fin,blk,inD,deep⟩:=p
 cases toks with
 |nil=>exact absurd (show([]:List Ky)=k::r from h) (by simp)
 |cons t ts=>
  have h1:tkey t=k:=(List.cons.inj (show tkey t::ts.map tkey=k::r from h)).1
  rw[←h1]
  exact⟨rfl,rfl,rfl⟩
def seesK (k:Ky)(l:List (List UInt8)):Bool:=(k.1==4||k.1==5)&&l.contains k.2.1
theorem sees_key {p:Ps}{k:Ky}{r:List Ky}(h:p.ks=k::r)(l:List (List UInt8)):p.sees l=seesK k l:=by
 obtain⟨a,b,_⟩:=nx_key h
 unfold Ps.sees isS seesK
 rw[a,b]
theorem pe_tkS {p:Ps}{k:Ky}{r:List Ky}(h:p.ks=k::r){x:List UInt8}(hx:seesK k [x]=true):PE (tkS x p) () (p.fwd 1):=by
 unfold tkS
 rw[sees_key h,hx]
 exact pe_ok _ _
theorem pe_name {p:Ps}{t:List UInt8}{r:List Ky}(h:p.ks=(1,t,0)::r):∃ k:Tk,k.text=t∧PE (tkK 1 p) k (p.fwd 1):=by
 obtain⟨a,b,_⟩:=nx_key h
 refine⟨p.nx,b,?_⟩
 unfold tkK
 rw[a]
 exact pe_ok _ _
theorem pe_rfD {l:List (List UInt8)}{p:Ps}:PE (rfD l p) () p:=by
 unfold rfD guIf
 cases((sAtom p||p.sees l)&&p.deep==30)
 ·exact pe_ok _ _
 ·exact .inr ⟨p.nx.pos,rfl⟩
theorem pe_inner {m:Ps→Px Ex}{e:Ex}{p:Ps}{k:Nat}(hd:p.deep<1000)(h:PE (m p.inn) e (p.inn.fwd k)):PE (inner m p) e (p.fwd k):=by
 unfold inner
 refine pe_iff (decide_eq_true hd) (pe_bnd h (pe_iff (decide_eq_true (Nat.le_add_left 1 p.deep)) ?_))
 exact .inl rfl
theorem pe_jnL {part:Ps→Px Ex}{l:List (List UInt8)}{f:Nat}{e:Ex}{q:Ps}(h:q.sees l=false):PE (jnL part l (f+1) e q) e q:=by
 unfold jnL
 rw[h]
 exact pe_ok _ _
theorem pe_jn {part:Ps→Px Ex}{l:List (List UInt8)}{e:Ex}{p q:Ps}(hp:PE (part p) e q)(h:q.sees l=false):PE (jn part l p) e q:=by
 unfold jn
 exact pe_bnd hp (pe_jnL h)
theorem pe_sum {E:Ps→Px Ex}{e:Ex}{p q:Ps}(hp:PE (una E p) e q)(h1:q.sees [[42],[47,47],[37]]=false)(h2:q.sees [[43],[45]]=false):PE (sum E p) e q:=pe_jn (pe_jn hp h1) h2
theorem pe_cmp {E:Ps→Px Ex}{e:Ex}{p q:Ps}(hp:PE (sum E p) e q)(h:q.sees [[61,61],[33,61],[60],[60,61],[105,110]]=false):PE (cmp E p) e q:=by
 unfold cmp
 refine pe_bnd hp ?_
 rw[h]
 exact pe_ok _ _
theorem pe_una {E:Ps→Px Ex}{e:Ex}{p q:Ps}(hp:PE (pst E p) e q)(h:p.sees [[45]]=false):PE (una E p) e q:=by
 unfold una unL
 rw[h]
 exact hp
theorem pe_neg {E:Ps→Px Ex}{e:Ex}{p q:Ps}(hp:PE (cmp E p) e q)(h:p.sees [[110,111,116]]=false):PE (neg E p) e q:=by
 unfold neg ngL
 rw[h]
 exact hp
theorem pe_or {E:Ps→Px Ex}{e:Ex}{p q:Ps}(hp:PE (neg E p) e q)(h1:q.sees [[97,110,100]]=false)(h2:q.sees [[111,114]]=false):PE (orE E p) e q:=pe_jn (pe_jn hp h1) h2
theorem pe_psL {E:Ps→Px Ex}{f:Nat}{e:Ex}{q:Ps}(h1:q.sees [[40]]=false)(h2:q.sees [[91]]=false):PE (psL E (f+1) e q) e q:=by
 unfold psL
 rw[h1,h2]
 exact pe_ok _ _
theorem pe_two {part:Ps→Px Ex}{l:List (List UInt8)}{a b:Ex}{p q r:Ps}(hp:PE (part p) a q)(hs:q.sees l=true)(hb:PE (part q.adv) b r)(hl:less r q=true)(h:r.sees l=false)(hq:0<q.toks.length):PE (jn part l p) ⟨14,0,q.nx.text,[a,b],[]⟩ r:=by
 unfold jn
 refine pe_bnd hp ?_
 unfold jnL
 rw[hs]
 refine pe_bnd hb (pe_iff hl ?_)
 obtain⟨k,hk⟩:∃ k,q.toks.length=k+1:=⟨q.toks.length-1,by omega⟩
 rw[hk]
 exact pe_jnL h
def mulS:List (List UInt8):=[[42],[47,47],[37]]
def sumS:List (List UInt8):=[[43],[45]]
def cmpS:List (List UInt8):=[[61,61],[33,61],[60],[60,61],[105,110]]
def allG:List (List UInt8):=[[40],[91]]++mulS++sumS++cmpS++[[97,110,100],[111,114]]
def Stp (p:Ps):Prop:=∀ l:List (List UInt8),(∀ x∈l,x∈allG)→p.sees l=false
theorem stp_of {p:Ps}(h:p.sees allG=false):Stp p:=fun l hl=>by
 unfold Ps.sees isS at h ⊢
 rcases Bool.and_eq_false_iff.1 h with h|h
 ·rw[h];rfl
 ·rw[Bool.and_eq_false_iff]
  right
  cases hc:l.contains p.nx.text
  ·rfl
  ·have:=hl _ (List.contains_iff_mem.1 hc)
   rw[List.contains_iff_mem.2 this]at h
   cases h
section
variable {E:Ps→Px Ex} {a b:Ex} {p q r:Ps}
theorem up_mul (h:PE (pst E p) a q)(n:p.sees [[45]]=false)(s:q.sees mulS=false):PE (jn (una E) mulS p) a q:=pe_jn (pe_una h n) s
theorem up_sum (h:PE (pst E p) a q)(n:p.sees [[45]]=false)(s:q.sees mulS=false)(t:q.sees sumS=false):PE (sum E p) a q:=pe_sum (pe_una h n) s t
theorem up_neg (h:PE (pst E p) a q)(n:p.sees [[45]]=false)(m:p.sees [[110,111,116]]=false)(s:q.sees mulS=false)(t:q.sees sumS=false)(u:q.sees cmpS=false):PE (neg E p) a q:=pe_neg (pe_cmp (up_sum h n s t) u) m
theorem up_and (h:PE (pst E p) a q)(n:p.sees [[45]]=false)(m:p.sees [[110,111,116]]=false)(s:q.sees mulS=false)(t:q.sees sumS=false)(u:q.sees cmpS=false)(v:q.sees [[97,110,100]]=false):PE (jn (neg E) [[97,110,100]] p) a q:=pe_jn (up_neg h n m s t u) v
theorem pe_cmp2 (h:PE (sum E p) a q)(hs:q.sees cmpS=true)(g:PE (sum E q.adv) b r):PE (cmp E p) ⟨14,0,q.nx.text,[a,b],[]⟩ r:=by
 unfold cmp
 refine pe_bnd h ?_
 rw[show q.sees [[61,61],[33,61],[60],[60,61],[105,110]]=true from hs]
 exact pe_bnd g (pe_ok _ _)
theorem pe_alone (h:PE (pst E p) a q)(n:p.sees [[45]]=false)(m:p.sees [[110,111,116]]=false)(s:Stp q):PE (orE E p) a q:=
 pe_or (up_neg h n m (s _ (by decide)) (s _ (by decide)) (s _ (by decide))) (s _ (by decide)) (s _ (by decide))
theorem pe_op {s:List UInt8}(hs:s∈opsB){rs:List Ky}(hq:q.ks=(kO s).k::rs)(ha:PE (pst E p) a q)(n:p.sees [[45]]=false)(m:p.sees [[110,111,116]]=false)
  (hb:PE (pst E q.adv) b r) (n2:q.adv.sees [[45]]=false) (m2:q.adv.sees [[110,111,116]]=false) (hl:less r q=true) (hz:Stp r):PE (orE E p) ⟨14,0,s,[a,b],[]⟩ r:=by
 have S:=fun l=>sees_key hq l
 have ht:q.nx.text=s:=by
  rw[(nx_key hq).2.1]
  unfold kO
  cases isLt (s.getD 0 0)<;>rfl
 have hlen:0<q.toks.length:=by
  have:=congrArg List.length hq
  rw[show q.ks.length=q.toks.length from List.length_map ..]at this
  rw[this]
  exact Nat.succ_pos _
 have z:=fun l (h:∀ x∈l,x∈allG)=>hz l h
 have O:∀ {s:List UInt8},q.nx.text=s→PE (orE E p) ⟨14,0,q.nx.text,[a,b],[]⟩ r→PE (orE E p) ⟨14,0,s,[a,b],[]⟩ r:=fun h g=>h▸g
 have hb3:=up_neg hb n2 m2 (z _ (by decide)) (z _ (by decide)) (z _ (by decide))
 simp only[opsB,List.mem_cons,List.not_mem_nil,or_false]at hs
 refine O ht ?_
 rcases hs with rfl|rfl|rfl|rfl|rfl|rfl|rfl|rfl|rfl|rfl|rfl|rfl
 ·exact pe_two (part:=jn (neg E) [[97,110,100]]) (up_and ha n m (S _) (S _) (S _) (S _)) (S _) (pe_jn hb3 (z _ (by decide))) hl (z _ (by decide)) hlen
 ·exact pe_jn (pe_two (part:=neg E) (up_neg ha n m (S _) (S _) (S _)) (S _) hb3 hl (z _ (by decide)) hlen) (z _ (by decide))
 iterate 5
  ·exact pe_or (pe_neg (pe_cmp2 (up_sum ha n (S _) (S _)) (S _) (up_sum hb n2 (z _ (by decide)) (z _ (by decide)))) m) (z _ (by decide)) (z _ (by decide))
 iterate 2
  ·exact pe_or (pe_neg (pe_cmp (pe_two (part:=jn (una E) mulS) (up_mul ha n (S _)) (S _) (up_mul hb n2 (z _ (by decide))) hl (z _ (by decide)) hlen) (z _ (by decide))) m) (z _ (by decide)) (z _ (by decide))
 iterate 3
  ·exact pe_or (pe_neg (pe_cmp (pe_jn (pe_two (part:=una E) (pe_una ha n) (S _) (pe_una hb n2) hl (z _ (by decide)) hlen) (z _ (by decide))) (z _ (by decide))) m) (z _ (by decide)) (z _ (by decide))
end
section
variable {E:Ps→Px Ex} {a:Ex} {p:Ps} {k:Nat}
theorem pe_not (hs:p.sees [[110,111,116]]=true)(hd:p.deep<1000)(ht:0<p.toks.length)(ha:PE (pst E p.adv.inn) a (p.adv.inn.fwd k))(n:p.adv.sees [[45]]=false)(m:p.adv.sees [[110,111,116]]=false)(z:Stp (p.fwd (1+k))):
  PE (orE E p) ⟨12,0,[],[a],[]⟩ (p.fwd (1+k)):=by
 have z2:Stp (p.adv.inn.fwd k):=fun l hl=>by
  have:=z l hl
  rw[←fwd_fwd]at this
  exact this
 refine pe_jn (pe_jn ?_ (z _ (by decide))) (z _ (by decide))
 show PE (ngL E (p.toks.length+1) p) _ _
 unfold ngL
 rw[hs]
 refine pe_bnd pe_rfD (pe_bnd (q:=p.adv.fwd k) (pe_inner (k:=k) hd ?_) (by rw[adv_fwd,fwd_fwd];exact pe_ok _ _))
 obtain⟨f,hf⟩:∃ f,p.toks.length=f+1:=⟨p.toks.length-1,by omega⟩
 rw[hf]
 unfold ngL
 rw[show p.adv.inn.sees [[110,111,116]]=false from m]
 exact pe_cmp (up_sum ha n (z2 _ (by decide)) (z2 _ (by decide))) (z2 _ (by decide))
theorem pe_min (hs:p.sees [[45]]=true)(hno:p.sees [[110,111,116]]=false)(hd:p.deep<1000)(ht:0<p.toks.length)(ha:PE (pst E p.adv.inn) a (p.adv.inn.fwd k))(n:p.adv.sees [[45]]=false)(z:Stp (p.fwd (1+k))):
  PE (orE E p) ⟨13,0,[],[a],[]⟩ (p.fwd (1+k)):=by
 refine pe_or (pe_neg (pe_cmp (pe_sum ?_ (z _ (by decide)) (z _ (by decide))) (z _ (by decide))) hno) (z _ (by decide)) (z _ (by decide))
 show PE (unL E (p.toks.length+1) p) _ _
 unfold unL
 rw[hs]
 refine pe_bnd pe_rfD (pe_bnd (q:=p.adv.fwd k) (pe_inner (k:=k) hd ?_) (by rw[adv_fwd,fwd_fwd];exact pe_ok _ _))
 obtain⟨f,hf⟩:∃ f,p.toks.length=f+1:=⟨p.toks.length-1,by omega⟩
 rw[hf]
 unfold unL
 rw[show p.adv.inn.sees [[45]]=false from n]
 exact ha
theorem pe_par {rs rs':List Ky}(hp:p.ks=(4,[40],0)::rs)(he:PE (E p.adv) a (p.adv.fwd k))(hq:(p.fwd (1+k)).ks=(4,[41],0)::rs'):PE (atm E p) a (p.fwd (1+k+1)):=by
 obtain⟨h1,_⟩:=nx_key hp
 have S:=fun l=>sees_key hp l
 unfold atm
 rw[h1]
 show PE (sgA E p) a _
 unfold sgA
 rw[show p.sees [[84,114,117,101]]=false from S _,show p.sees [[70,97,108,115,101]]=false from S _,show p.sees [[78,111,110,101]]=false from S _,show p.sees [[91]]=false from S _,show p.sees [[123]]=false from S _]
 refine pe_bnd (pe_tkS hp (by decide)) (pe_bnd (q:=p.fwd (1+k)) (by rw[←fwd_fwd];exact he) (pe_bnd (pe_tkS hq (by decide)) ?_))
 rw[fwd_fwd]
 exact pe_ok _ _
theorem pe_pst {b:Ex}{q r:Ps}(ha:PE (atm E p) a q)(hs:PE (psL E (q.toks.length+1) a q) b r):PE (pst E p) b r:=pe_bnd ha hs
end
theorem pe_leaf {E:Ps→Px Ex}{p:Ps}{ky:Ky}{rs:List Ky}(hp:p.ks=ky::rs){e:Ex}
  (h:(ky.1=1∧e=⟨6,0,ky.2.1,[],[]⟩)∨(ky.1=2∧e=⟨4,ky.2.2,[],[],[]⟩)∨(ky.1=3∧e=⟨5,0,ky.2.1,[],[]⟩)∨(ky=(5,[84,114,117,101],0)∧e=⟨2,0,[],[],[]⟩)∨(ky=(5,[70,97,108,115,101],0)∧e=⟨3,0,[],[],[]⟩)∨(ky=(5,[78,111,110,101],0)∧e=⟨1,0,[],[],[]⟩)):PE (atm E p) e (p.fwd 1):=by
 obtain⟨h1,h2,h3⟩:=nx_key hp
 have S:=fun l=>sees_key hp l
 unfold atm
 rw[h1,h2,h3]
 rcases h with⟨e1,rfl⟩|⟨e1,rfl⟩|⟨e1,rfl⟩|⟨e1,rfl⟩|⟨e1,rfl⟩|⟨e1,rfl⟩
 ·rw[e1];exact pe_ok _ _
 ·rw[e1];exact pe_ok _ _
 ·rw[e1];exact pe_ok _ _
 ·subst e1
  show PE (sgA E p) _ _
  unfold sgA
  rw[show p.sees [[84,114,117,101]]=true from S _]
  exact pe_ok _ _
 ·subst e1
  show PE (sgA E p) _ _
  unfold sgA
  rw[show p.sees [[84,114,117,101]]=false from S _,show p.sees [[70,97,108,115,101]]=true from S _]
  exact pe_ok _ _
 ·subst e1
  show PE (sgA E p) _ _
  unfold sgA
  rw[show p.sees [[84,114,117,101]]=false from S _,show p.sees [[70,97,108,115,101]]=false from S _,show p.sees [[78,111,110,101]]=true from S _]
  exact pe_ok _ _
def jk:Bool→List (List Ky)→List Ky
 |_,[]=>[]
 |first,x::xs=>(bif first then[]else[(4,[44],0)])++(x++jk false xs)
def EndI (c:List UInt8)(rest:List Ky):Prop:=∃ k r,rest=k::r∧(k=(4,[44],0)∨k=(4,c,0))
def Steps {σ:Type}(c:List UInt8)(each:σ→Ps→Px σ)(Q:Ps→Prop):List (List Ky)→σ→σ→Prop
 |[],s,t=>s=t
 |x::xs,s,t=>∃ u,(∃ k r,x=k::r∧seesK k [c]=false)∧(∀ q rest,Q q→q.ks=x++rest→EndI c rest→PE (each s q) u (q.fwd x.length))∧Steps c each Q xs u t
theorem ks_len (p:Ps):p.ks.length=p.toks.length:=List.length_map ..
theorem pe_lsL {σ:Type}{c:List UInt8}{each:σ→Ps→Px σ}{Q:Ps→Prop}(hQ:∀ p k,Q p→Q (p.fwd k))(hc:seesK (4,[44],0) [c]=false):∀ (xs:List (List Ky)) (first:Bool) (s t:σ) (p:Ps) (f:Nat) (rest:List Ky),Q p→Steps c each Q xs s t→p.ks=jk first xs++(4,c,0)::rest→p.toks.length<f→
  PE (lsL c each f first s p) t (p.fwd ((jk first xs).length+1))
 |_,_,_,_,_,0,_,_,_,_,hf=>absurd hf (by omega)
 |[],first,s,t,p,f+1,rest,_,hs,hk,_=>by
  cases hs
  have h:p.ks=(4,c,0)::rest:=hk
  unfold lsL
  rw[show p.sees [c]=true from(sees_key h _).trans (by unfold seesK;simp)]
  exact pe_ok _ _
 |x::xs,first,s,t,p,f+1,rest,hq,⟨u,⟨k,r,hx,hkc⟩,he,hs⟩,hk,hf=>by
  have hno:p.sees [c]=false:=by
   cases first
   ·have h:p.ks=(4,[44],0)::((x++jk false xs)++(4,c,0)::rest):=hk
    exact(sees_key h _).trans hc
   ·have h:p.ks=k::(r++jk false xs++(4,c,0)::rest):=by
     rw[hk]
     show(x++jk false xs)++_=_
     rw[hx]
     rfl
    exact(sees_key h _).trans hkc
  obtain⟨o,ho⟩:∃ o:Nat,o=(bif first then[]else[(4,[44],0)]:List Ky).length:=⟨_,rfl⟩
  have hk1:(p.fwd o).ks=x++(jk false xs++(4,c,0)::rest):=by
   rw[ho]
   refine ks_fwd ?_
   rw[hk]
   show((bif first then[]else[(4,[44],0)])++(x++jk false xs))++_=_
   simp only[List.append_assoc]
  have hk2:((p.fwd o).fwd x.length).ks=jk false xs++(4,c,0)::rest:=ks_fwd hk1
  have hE:EndI c (jk false xs++(4,c,0)::rest):=by
   cases xs with
   |nil=>exact⟨_,_,rfl,.inr rfl⟩
   |cons y ys=>exact⟨_,_,rfl,.inl rfl⟩
  have hlen:((p.fwd o).fwd x.length).toks.length<p.toks.length:=by
   have a:=congrArg List.length hk
   have b:=congrArg List.length hk2
   rw[ks_len]at a b
   rw[a,b,show jk first (x::xs)=(bif first then[]else[(4,[44],0)])++(x++jk false xs)from rfl,hx]
   simp only[List.length_append,List.length_cons]
   omega
  unfold lsL
  rw[hno]
  refine pe_bnd (q:=p.fwd o) (a:=()) ?_ (pe_bnd (he _ _ (hQ _ _ hq) hk1 hE) (pe_iff (decide_eq_true hlen) ?_))
  ·cases first
   ·rw[ho]
    exact pe_tkS (show p.ks=(4,[44],0)::((x++jk false xs)++(4,c,0)::rest)from hk) (by decide)
   ·rw[ho]
    exact pe_ok _ _
  ·have g:=pe_lsL hQ hc xs false u t ((p.fwd o).fwd x.length) f rest (hQ _ _ (hQ _ _ hq)) hs hk2 (by omega)
   have e:o+x.length+((jk false xs).length+1)=(jk first (x::xs)).length+1:=by
    rw[show jk first (x::xs)=(bif first then[]else[(4,[44],0)])++(x++jk false xs)from rfl,List.length_append,List.length_append,←ho]
    omega
   have fe:((p.fwd o).fwd x.length).fwd ((jk false xs).length+1)=p.fwd ((jk first (x::xs)).length+1):=by rw[fwd_fwd,fwd_fwd,←Nat.add_assoc,e]
   exact fe▸g
theorem pe_lst {σ:Type}{c:List UInt8}{each:σ→Ps→Px σ}{Q:Ps→Prop}(hQ:∀ p k,Q p→Q (p.fwd k))(hc:seesK (4,[44],0) [c]=false){xs:List (List Ky)}{s t:σ}{p:Ps}{rest:List Ky}(hq:Q p)(hs:Steps c each Q xs s t)(hk:p.ks=jk true xs++(4,c,0)::rest):PE (lst c each s p) t (p.fwd ((jk true xs).length+1)):=
 pe_lsL hQ hc xs true s t p _ rest hq hs hk (Nat.lt_succ_self _)
def kys (xs:List Lx):List Ky:=xs.map (·.k)
theorem kys_app (xs ys:List Lx):kys (xs++ys)=kys xs++kys ys:=List.map_append
theorem kys_sp (xs:List Lx):kys (spL xs)=kys xs:=spL_k xs
theorem jk_join:∀ L:List (List Lx),kys (joinC L)=jk true (L.map kys)
 |[]=>rfl
 |[x]=>by
  show kys x=[]++(kys x++[])
  simp
 |x::y::r=>by
  have h:=jk_join (y::r)
  show kys (x++cm::joinC (y::r))=[]++(kys x++jk false ((y::r).map kys))
  rw[kys_app]
  show kys x++cm.k::kys (joinC (y::r))=_
  rw[h]
  rfl
def bgK (k:Ky):Bool:=(k.1==1||k.1==2||k.1==3||seesK k [[84,114,117,101],[70,97,108,115,101],[78,111,110,101],[40],[91],[123]])||seesK k [[110,111,116],[45]]
def Fst (ks:List Ky):Prop:=∃ k r,ks=k::r∧seesK k [[41],[93],[125]]=false∧bgK k=true
theorem fst_app {a b:List Ky}(h:Fst a):Fst (a++b):=by
 obtain⟨k,r,e,g⟩:=h
 exact⟨k,r++b,by rw[e];rfl,g⟩
theorem fst_lP {f:Ex→List Lx}{e:Ex}(h:Fst (kys (f e))):Fst (kys (lP f e)):=by
 unfold lP
 cases decide (12≤e.kind)
 ·exact h
 ·exact⟨_,_,rfl,rfl,rfl⟩
theorem fst_lE:∀ (n:Nat) (e:Ex),WfE n e→Fst (kys (lE n e))
 |0,_,h=>h.elim
 |n+1,⟨k,num,text,kids,names⟩,h=>by
  match k,h with
  |1,_=>exact⟨_,_,rfl,rfl,rfl⟩
  |2,_=>exact⟨_,_,rfl,rfl,rfl⟩
  |3,_=>exact⟨_,_,rfl,rfl,rfl⟩
  |4,_=>exact⟨_,_,rfl,rfl,rfl⟩
  |5,_=>exact⟨_,_,rfl,rfl,rfl⟩
  |6,h=>
   have hw:isWd text=false:=h.2.2
   have e:kys (lE (n+1) ⟨6,num,text,kids,names⟩)=[(1,text,0)]:=by
    show[((bif isWd text then 5 else 1,text,0):Ky)]=_
    rw[hw]
    rfl
   exact⟨_,_,e,rfl,rfl⟩
  |7,_=>exact⟨_,_,rfl,rfl,rfl⟩
  |8,_=>exact⟨_,_,rfl,rfl,rfl⟩
  |9,h=>
   obtain⟨_,hk,hl,_⟩:=h
   match kids,hk,hl with
   |[a,b],_,_=>exact⟨_,_,rfl,rfl,rfl⟩
   |[a,b,c],_,_=>exact⟨_,_,rfl,rfl,rfl⟩
   |[],_,hl=>exact absurd hl (by show ¬(0=2∨0=3);decide)
   |[_],_,hl=>exact absurd hl (by show ¬(1=2∨1=3);decide)
   |_::_::_::_::l,_,hl=>exact absurd hl (by show ¬(l.length+4=2∨l.length+4=3);omega)
  |10,h=>
   obtain⟨_,hk,hl,_⟩:=h
   match kids,hk,hl with
   |c::l,hk,_=>
    show Fst (kys (lP (lE n) c++_))
    rw[kys_app]
    exact fst_app (fst_lP (fst_lE n c (hk c List.mem_cons_self)))
   |[],_,hl=>exact absurd hl (by show ¬(names.length+1≤0);omega)
  |11,h=>
   obtain⟨_,hk,hl⟩:=h
   match kids,hk,hl with
   |[a,b],hk,_=>
    show Fst (kys (lP (lE n) a++_))
    rw[kys_app]
    exact fst_app (fst_lP (fst_lE n a (hk a List.mem_cons_self)))
  |12,h=>
   obtain⟨_,hk,hl⟩:=h
   match kids,hk,hl with
   |[a],_,_=>exact⟨_,_,rfl,rfl,rfl⟩
  |13,h=>
   obtain⟨_,hk,hl⟩:=h
   match kids,hk,hl with
   |[a],_,_=>exact⟨_,_,rfl,rfl,rfl⟩
  |14,h=>
   obtain⟨_,hk,hl,_⟩:=h
   match kids,hk,hl with
   |[a,b],hk,_=>
    show Fst (kys (spL (lP (lE n) a)++_))
    rw[kys_app,kys_sp]
    exact fst_app (fst_lP (fst_lE n a (hk a List.mem_cons_self)))
theorem pe_ex {n:Nat}{p:Ps}{e:Ex}{ks rest:List Ky}(hp:p.ks=ks++rest)(hf:Fst ks)(hd:p.deep≤30)(h:p.deep<30→PE (orE (exF n) p.inn) e (p.inn.fwd ks.length)):PE (exF (n+1) p) e (p.fwd ks.length):=by
 obtain⟨k,r,e1,_,hb⟩:=hf
 have hk:p.ks=k::(r++rest):=by rw[hp,e1];rfl
 have hs:(sAtom p||p.sees [[110,111,116],[45]])=true:=by
  unfold sAtom
  rw[(nx_key hk).1,sees_key hk,sees_key hk]
  exact hb
 unfold exF
 by_cases h30:p.deep=30
 ·refine .inr ⟨p.nx.pos,?_⟩
  have:rfD [[110,111,116],[45]] p=gu p 2:=by
   unfold rfD
   rw[hs,h30]
   rfl
  rw[this]
  rfl
 ·exact pe_bnd pe_rfD (pe_inner (by omega) (h (by omega)))
def Spn (E:Ps→Px Ex)(Q:Ps→Prop)(e:Ex)(ks:List Ky):Prop:=∀ (p:Ps) (rest:List Ky),Q p→p.ks=ks++rest→∀ (b:Ex) (r:Ps),(∀ f,(p.fwd ks.length).toks.length<f→PE (psL E f e (p.fwd ks.length)) b r)→PE (pst E p) b r
section
variable {E:Ps→Px Ex} {Q:Ps→Prop}
theorem spn_atm {e:Ex}{ks:List Ky}(h:∀ p rest,Q p→p.ks=ks++rest→PE (atm E p) e (p.fwd ks.length)):Spn E Q e ks:=
 fun p rest hq hk _ _ g=>pe_pst (h p rest hq hk) (g _ (Nat.lt_succ_self _))
theorem spn_end {e:Ex}{ks:List Ky}(h:Spn E Q e ks){p:Ps}{rest:List Ky}(hq:Q p)(hk:p.ks=ks++rest)(hs:Stp (p.fwd ks.length)):PE (pst E p) e (p.fwd ks.length):=
 h p rest hq hk _ _ fun f hf=>by
  cases f with
  |zero=>exact absurd hf (by omega)
  |succ f=>exact pe_psL (hs _ (by decide)) (hs _ (by decide))
theorem spn_idx (hQ:∀ p k,Q p→Q (p.fwd k)){a b:Ex}{ka kb:List Ky}(ha:Spn E Q a ka)(hb:∀ q rest,Q q→q.ks=kb++(4,[93],0)::rest→PE (E q) b (q.fwd kb.length)):
  Spn E Q ⟨11,0,[],[a,b],[]⟩ (ka++(4,[91],0)::(kb++[(4,[93],0)])):=by
 intro p rest hq hk b' r h
 refine ha p ((4,[91],0)::(kb++(4,[93],0)::rest)) hq (by rw[hk];simp) b' r fun f hf=>?_
 cases f with
 |zero=>exact absurd hf (by omega)
 |succ f=>
  have k1:(p.fwd ka.length).ks=(4,[91],0)::(kb++(4,[93],0)::rest):=ks_fwd (by rw[hk];simp)
  have k2:((p.fwd ka.length).fwd 1).ks=kb++(4,[93],0)::rest:=ks_fwd (a:=[(4,[91],0)]) k1
  have k3:(((p.fwd ka.length).fwd 1).fwd kb.length).ks=(4,[93],0)::rest:=ks_fwd k2
  have k4:((((p.fwd ka.length).fwd 1).fwd kb.length).fwd 1).ks=rest:=ks_fwd (a:=[(4,[93],0)]) k3
  have hst:(((p.fwd ka.length).fwd 1).fwd kb.length).fwd 1=p.fwd (ka++(4,[91],0)::(kb++[(4,[93],0)])).length:=by
   rw[fwd_fwd,fwd_fwd,fwd_fwd]
   congr 1
   simp
   omega
  have hl:((((p.fwd ka.length).fwd 1).fwd kb.length).fwd 1).toks.length<(p.fwd ka.length).toks.length:=by
   have a1:=congrArg List.length k1
   have a4:=congrArg List.length k4
   rw[ks_len]at a1 a4
   rw[a1,a4]
   simp
   omega
  unfold psL
  rw[show(p.fwd ka.length).sees [[40]]=false from sees_key k1 _,show(p.fwd ka.length).sees [[91]]=true from sees_key k1 _]
  refine pe_bnd (hb _ rest (hQ _ _ (hQ _ _ hq)) k2) (pe_bnd (pe_tkS k3 (by decide)) (pe_iff (decide_eq_true hl) ?_))
  rw[hst]at hl ⊢
  exact h f (by omega)
theorem spn_call (hQ:∀ p k,Q p→Q (p.fwd k)){a e:Ex}{ka:List Ky}{xs:List (List Ky)}(ha:Spn E Q a ka)(hs:Steps [41] (caE E) Q xs ⟨10,0,[],[a],[]⟩ e):
  Spn E Q e (ka++(4,[40],0)::(jk true xs++[(4,[41],0)])):=by
 intro p rest hq hk b' r h
 refine ha p ((4,[40],0)::(jk true xs++(4,[41],0)::rest)) hq (by rw[hk];simp) b' r fun f hf=>?_
 cases f with
 |zero=>exact absurd hf (by omega)
 |succ f=>
  have k1:(p.fwd ka.length).ks=(4,[40],0)::(jk true xs++(4,[41],0)::rest):=ks_fwd (by rw[hk];simp)
  have k2:((p.fwd ka.length).fwd 1).ks=jk true xs++(4,[41],0)::rest:=ks_fwd (a:=[(4,[40],0)]) k1
  have k4:(((p.fwd ka.length).fwd 1).fwd ((jk true xs).length+1)).ks=rest:=by
   have:=ks_fwd (p:=(p.fwd ka.length).fwd 1) (a:=jk true xs++[(4,[41],0)]) (b:=rest) (by rw[k2];simp)
   simpa using this
  have hst:((p.fwd ka.length).fwd 1).fwd ((jk true xs).length+1)=p.fwd (ka++(4,[40],0)::(jk true xs++[(4,[41],0)])).length:=by
   rw[fwd_fwd,fwd_fwd]
   congr 1
   simp
   omega
  have hl:(((p.fwd ka.length).fwd 1).fwd ((jk true xs).length+1)).toks.length<(p.fwd ka.length).toks.length:=by
   have a1:=congrArg List.length k1
   have a4:=congrArg List.length k4
   rw[ks_len]at a1 a4
   rw[a1,a4]
   simp
   omega
  unfold psL
  rw[show(p.fwd ka.length).sees [[40]]=true from sees_key k1 _]
  refine pe_bnd (pe_lst hQ (by decide) (hQ _ _ (hQ _ _ hq)) hs k2) (pe_iff (decide_eq_true hl) ?_)
  rw[adv_fwd,hst]
  rw[hst]at hl
  exact h f (by omega)
end
def Sec (ks:List Ky):Prop:=∀ k r,ks=k::r→k.1=1→r=[]∨∃ k2 r2,r=k2::r2∧seesK k2 [[61]]=false
theorem sec_app {a b:List Ky}{k:Ky}(h:Sec a)(hn:a≠[])(hk:seesK k [[61]]=false):Sec (a++k::b):=by
 obtain⟨x,xs,rfl⟩:=List.exists_cons_of_ne_nil hn
 intro k' r e h1
 cases e
 right
 rcases h x xs rfl h1 with rfl|⟨k2,r2,rfl,g⟩
 ·exact⟨k,b,rfl,hk⟩
 ·exact⟨k2,r2++k::b,rfl,g⟩
theorem sec_no {k:Ky}{r:List Ky}(h:k.1≠1):Sec (k::r):=fun k' r' e h1=>by
 cases e
 exact absurd h1 h
theorem sec_lP {f:Ex→List Lx}{e:Ex}(h:Sec (kys (f e))):Sec (kys (lP f e)):=by
 unfold lP
 cases decide (12≤e.kind)
 ·exact h
 ·exact sec_no (by decide)
theorem fst_ne {ks:List Ky}(h:Fst ks):ks≠[]:=by
 obtain⟨k,r,e,_⟩:=h
 rw[e]
 exact List.cons_ne_nil _ _
theorem op_key {s:List UInt8}(h:s∈opsB):seesK (kO s).k [[61]]=false:=by
 simp only[opsB,List.mem_cons,List.not_mem_nil,or_false]at h
 rcases h with rfl|rfl|rfl|rfl|rfl|rfl|rfl|rfl|rfl|rfl|rfl|rfl<;>rfl
theorem sec_lE:∀ (n:Nat) (e:Ex),WfE n e→Sec (kys (lE n e))
 |0,_,h=>h.elim
 |n+1,⟨k,num,text,kids,names⟩,h=>by
  match k,h with
  |1,_=>exact sec_no (by decide)
  |2,_=>exact sec_no (by decide)
  |3,_=>exact sec_no (by decide)
  |4,_=>exact sec_no (by show ¬2=1;decide)
  |5,_=>exact sec_no (by show ¬3=1;decide)
  |6,_=>
   intro k r e _
   have:kys (lE (n+1) ⟨6,num,text,kids,names⟩)=[(kW text).k]:=rfl
   rw[this]at e
   cases e
   exact .inl rfl
  |7,_=>exact sec_no (by show ¬4=1;decide)
  |8,_=>exact sec_no (by show ¬4=1;decide)
  |9,h=>
   obtain⟨_,hk,hl,_⟩:=h
   match kids,hk,hl with
   |[a,b],_,_=>exact sec_no (by show ¬4=1;decide)
   |[a,b,c],_,_=>exact sec_no (by show ¬4=1;decide)
   |[],_,hl=>exact absurd hl (by show ¬(0=2∨0=3);decide)
   |[_],_,hl=>exact absurd hl (by show ¬(1=2∨1=3);decide)
   |_::_::_::_::l,_,hl=>exact absurd hl (by show ¬(l.length+4=2∨l.length+4=3);omega)
  |10,h=>
   obtain⟨_,hk,hl,_⟩:=h
   match kids,hk,hl with
   |c::l,hk,_=>
    have hc:=hk c List.mem_cons_self
    show Sec (kys (lP (lE n) c++_))
    rw[kys_app]
    exact sec_app (sec_lP (sec_lE n c hc)) (fst_ne (fst_lP (fst_lE n c hc))) rfl
   |[],_,hl=>exact absurd hl (by show ¬(names.length+1≤0);omega)
  |11,h=>
   obtain⟨_,hk,hl⟩:=h
   match kids,hk,hl with
   |[a,b],hk,_=>
    have hc:=hk a List.mem_cons_self
    show Sec (kys (lP (lE n) a++_))
    rw[kys_app]
    exact sec_app (sec_lP (sec_lE n a hc)) (fst_ne (fst_lP (fst_lE n a hc))) rfl
  |12,h=>
   obtain⟨_,hk,hl⟩:=h
   match kids,hk,hl with
   |[a],_,_=>exact sec_no (by decide)
  |13,h=>
   obtain⟨_,hk,hl⟩:=h
   match kids,hk,hl with
   |[a],_,_=>exact sec_no (by show ¬4=1;decide)
  |14,h=>
   obtain⟨_,hk,hl,ho⟩:=h
   match kids,hk,hl with
   |[a,b],hk,_=>
    have hc:=hk a List.mem_cons_self
    show Sec (kys (spL (lP (lE n) a)++_))
    rw[kys_app,kys_sp]
    exact sec_app (sec_lP (sec_lE n a hc)) (fst_ne (fst_lP (fst_lE n a hc))) (op_key ho)
theorem sec_set {p:Ps}{ks rest:List Ky}{k:Ky}(hk:p.ks=ks++k::rest)(hs:Sec ks)(hn:ks≠[])(h:seesK k [[61]]=false):sSet p=false:=by
 obtain⟨x,xs,rfl⟩:=List.exists_cons_of_ne_nil hn
 obtain⟨toks,fin,blk,inD,deep⟩:=p
 have g:=sec_app (b:=rest) hs (List.cons_ne_nil _ _) h
 have hk':toks.map tkey=x::xs++k::rest:=hk
 match toks,hk' with
 |[],hk'=>cases hk'
 |[t],hk'=>exact absurd (congrArg List.length hk') (by simp)
 |t::u::ts,hk'=>
  show(t.kind==1&&isS u [[61]])=false
  by_cases h1:t.kind=1
  ·rcases g (tkey t) (tkey u::ts.map tkey) hk'.symm h1 with e|⟨k2,r2,e,e2⟩
   ·cases e
   ·cases e
    rw[Bool.and_eq_false_iff]
    exact .inr e2
  ·rw[Bool.and_eq_false_iff]
   exact .inl (by simpa using h1)
end Go.Proofs.YtcaeeackccgclaaGreatDoor
