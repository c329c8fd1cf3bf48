/- 14. -/
import Derived.WalkKit
import Derived.Lib.Strings
import Derived.Lib.Builder
import Derived.Lib.UnsafeStr
import Derived.Laws.BitsLemmas
import Derived.ProofKit
import Derived.Below
import Derived.WalkSmall
import Derived.Lib.SmallJoins
import Derived.Lib.Slices
import Derived.Lib.Walk
import Derived.Lib.OthersKept
import Derived.Lib.AppendStr
import Derived.Laws.Externs
import Derived.WalkSpells
import Derived.WalkLawsBesides
import Derived.Deep.RegionHeld3
import Derived.Deep.AppendLies
import Derived.Deep.QuietTactic
import Derived.BigQuiet
import Derived.BigRegion
import Derived.Shelf.Abstract
import Derived.Maps.OwnSet
import Derived.Maps.Views
import Derived.Maps.RangeWalk
import Derived.Lib.Hide
import Derived.Test.YthfgpkdbclogpaaGreatDoorRows
import Derived.Test.YthfgpkdbclogpaaGreatDoorChecked
import Derived.Test.YthfgpkdbclogpaaGreatDoorTx13
set_option maxHeartbeats 40000000
set_option maxRecDepth 100000
namespace Go.Proofs.YthfgpkdbclogpaaGreatDoor
open Go.RowKit Go.Shelf
def Fa {α β:Type}(R:α→β→Prop):List α→List β→Prop
 |[],[]=>True
 |a::l,b::m=>R a b∧Fa R l m
 |[],_::_=>False
 |_::_,[]=>False
theorem Fa.mono {α β:Type}{R Q:α→β→Prop}(h:∀ a b,R a b→Q a b):∀ {l:List α} {m:List β},Fa R l m→Fa Q l m
 |[],[],_=>trivial
 |_::_,_::_,f=>⟨h _ _ f.1,Fa.mono h f.2⟩
theorem Fa.len {α β:Type}{R:α→β→Prop}:∀ {l:List α} {m:List β},Fa R l m→l.length=m.length
 |[],[],_=>rfl
 |_::_,_::_,f=>by simp[Fa.len f.2]
theorem Fa.snoc {α β:Type}{R:α→β→Prop}{a:α}{b:β}(h:R a b):∀ {l:List α} {m:List β},Fa R l m→Fa R (l++[a]) (m++[b])
 |[],[],_=>⟨h,trivial⟩
 |_::_,_::_,f=>⟨f.1,Fa.snoc h f.2⟩
theorem Fa.get {α β:Type}{R:α→β→Prop}:∀ {l:List α} {m:List β} (_:Fa R l m) (i:Nat) (hi:i<l.length) (hj:i<m.length),R l[i] m[i]
 |_::_,_::_,f,0,_,_=>f.1
 |_::_,_::_,f,i+1,hi,hj=>Fa.get f.2 i (Nat.lt_of_succ_lt_succ hi) (Nat.lt_of_succ_lt_succ hj)
def sv (x:List UInt8):Value:= .string (mkB x)
def ExV (w:World)(S:Nat→Prop):Nat→Ex→List Value→Prop
 |0,_,_=>False
 |n+1,x,c=>∃ kv nv vs,c=[.int .i64 x.kind,.int .i64 x.num,sv x.text,kv,nv]∧w.ownsRow 0 162 5 kv x.kids.length vs.flatten∧w.ownsRow 0 9 1 nv x.names.length (x.names.map sv)∧(∀ g,kv.ownBlock=some g→S g)∧(∀ g,nv.ownBlock=some g→S g)∧Fa (ExV w S n) x.kids vs
theorem ExV.len {w:World}{S:Nat→Prop}:∀ {n:Nat} {x:Ex} {c:List Value},ExV w S n x c→c.length=5
 |_+1,_,_,⟨_,_,_,e,_⟩=>by rw[e];rfl
theorem ExV.keep {w w':World}{S Q:Nat→Prop}(hk:∀ g,S g→g<w.heap.size→w'.heap[g]? =w.heap[g]?)(hs:∀ g,S g→g<w.heap.size→Q g):∀ {n:Nat} {x:Ex} {c:List Value},ExV w S n x c→ExV w' Q n x c
 |_+1,_,_,⟨kv,nv,vs,e,h1,h2,h3,h4,h5⟩=>⟨kv,nv,vs,e,own_heap h1 fun g hg=>hk g (h3 g hg) (h1.lt g hg).2,own_heap h2 fun g hg=>hk g (h4 g hg) (h2.lt g hg).2,fun g hg=>hs g (h3 g hg) (h1.lt g hg).2,fun g hg=>hs g (h4 g hg) (h2.lt g hg).2,h5.mono fun _ _ f=>ExV.keep hk hs f⟩
theorem ExV.up {w:World}{S:Nat→Prop}:∀ {n:Nat} {x:Ex} {c:List Value},ExV w S n x c→ExV w S (n+1) x c
 |_+1,_,_,⟨kv,nv,vs,e,h1,h2,h3,h4,h5⟩=>⟨kv,nv,vs,e,h1,h2,h3,h4,h5.mono fun _ _ f=>ExV.up f⟩
theorem ExV.le {w:World}{S:Nat→Prop}{n:Nat}{x:Ex}{c:List Value}(h:ExV w S n x c):∀ m,n≤m→ExV w S m x c
 |m,hm=>by
  induction m with
  |zero=>
   obtain rfl:n=0:=by omega
   exact h
  |succ m ih=>
   rcases Nat.lt_or_ge m n with hl|hl
   ·obtain rfl:n=m+1:=by omega
    exact h
   ·exact(ih hl).up
def ExA (w:World)(S:Nat→Prop)(x:Ex)(c:List Value):Prop:=∃ n,ExV w S n x c
section
variable {w w':World} {S Q:Nat→Prop} {x:Ex} {c:List Value}
theorem ExA.len (h:ExA w S x c):c.length=5:=h.choose_spec.len
theorem ExA.keep (h:ExA w S x c)(hk:∀ g,S g→g<w.heap.size→w'.heap[g]? =w.heap[g]?)(hs:∀ g,S g→g<w.heap.size→Q g):ExA w' Q x c:=⟨h.choose,h.choose_spec.keep hk hs⟩
theorem ExA.mono (h:ExA w S x c)(hs:∀ g,S g→g<w.heap.size→Q g):ExA w Q x c:=h.keep (fun _ _ _=>rfl) hs
theorem fa_all:∀ {l:List Ex} {vs:List (List Value)},Fa (ExA w S) l vs→∃ n,Fa (ExV w S n) l vs
 |[],[],_=>⟨0,trivial⟩
 |a::l,b::m,f=>by
  obtain⟨n1,h1⟩:=f.1
  obtain⟨n2,h2⟩:=fa_all f.2
  exact⟨max n1 n2,h1.le _ (Nat.le_max_left _ _),h2.mono fun _ _ h=>h.le _ (Nat.le_max_right _ _)⟩
theorem ExA.make {kv nv:Value}{vs:List (List Value)}(h1:w.ownsRow 0 162 5 kv x.kids.length vs.flatten)(h2:w.ownsRow 0 9 1 nv x.names.length (x.names.map sv))(h3:∀ g,kv.ownBlock=some g→S g)(h4:∀ g,nv.ownBlock=some g→S g)(h5:Fa (ExA w S) x.kids vs):
  ExA w S x [.int .i64 x.kind,.int .i64 x.num,sv x.text,kv,nv]:=by
 obtain⟨n,h6⟩:=fa_all h5
 exact⟨n+1,kv,nv,vs,rfl,h1,h2,h3,h4,h6⟩
theorem ExA.open (h:ExA w S x c):∃ kv nv vs,c=[.int .i64 x.kind,.int .i64 x.num,sv x.text,kv,nv]∧w.ownsRow 0 162 5 kv x.kids.length vs.flatten∧w.ownsRow 0 9 1 nv x.names.length (x.names.map sv)∧(∀ g,kv.ownBlock=some g→S g)∧(∀ g,nv.ownBlock=some g→S g)∧Fa (ExA w S) x.kids vs:=by
 obtain⟨n,hn⟩:=h
 match n,hn with
 |n+1,⟨kv,nv,vs,e,h1,h2,h3,h4,h5⟩=>exact⟨kv,nv,vs,e,h1,h2,h3,h4,h5.mono fun _ _ f=>⟨n,f⟩⟩
theorem ExA.leaf (k n:Nat)(t:List UInt8):ExA w S ⟨k,n,t,[],[]⟩ [.int .i64 k,.int .i64 n,sv t,.slice none 0 0,.slice none 0 0]:=
 ExA.make (x:=⟨k,n,t,[],[]⟩) (vs:=[]) (World.ownsRow_nil _ _ _ _) (World.ownsRow_nil _ _ _ _) (fun g h=>by cases h) (fun g h=>by cases h) trivial
end
structure KP (P:Nat)(w w':World):Prop where
 os:w'.os=w.os
 tape:w'.tape=w.tape
 output:w'.output=w.output
 size:w.heap.size≤w'.heap.size
 blk:∀ g,g<w.heap.size→g≠P→w'.heap[g]? =w.heap[g]?
section
variable {P:Nat} {a b c:World}
theorem KP.refl (P:Nat)(w:World):KP P w w:=⟨rfl,rfl,rfl,Nat.le_refl _,fun _ _ _=>rfl⟩
theorem KP.trans (h:KP P a b)(k:KP P b c):KP P a c:=⟨k.os.trans h.os,k.tape.trans h.tape,k.output.trans h.output,Nat.le_trans h.size k.size,fun g hg hp=>(k.blk g (Nat.lt_of_lt_of_le hg h.size) hp).trans (h.blk g hg hp)⟩
theorem KP.of_below (h:Below a.heap.size a b):KP P a b:=⟨h.os,h.tape,h.output,h.size,fun g hg _=>h.block g hg⟩
theorem KP.below (h:KP P a b){B:Nat}(hB:B≤P)(hl:B≤a.heap.size):Below B a b:=⟨h.os,h.tape,h.output,h.size,fun g hg=>h.blk g (by omega) (by omega)⟩
theorem KP.drewN (h:KP P a b)(n:Nat):KP P a (b.drewN n):=⟨h.os,h.tape,h.output,h.size,h.blk⟩
theorem KP.drew (h:KP P a b):KP P a b.drew:=⟨h.os,h.tape,h.output,h.size,h.blk⟩
theorem KP.alloc (h:KP P a b)(o:Obj):KP P a (b.alloc o):=by
 have:=(Below.refl b.heap.size b).alloc (Nat.le_refl _) o
 exact h.trans (KP.of_below this)
theorem KP.setCell (h:KP P a b)(i:Nat)(v:Value):KP P a (b.setCell ⟨P,i,none⟩ v):=by
 have hs:(b.setCell ⟨P,i,none⟩ v).heap.size=b.heap.size:=by simp[World.setCell]
 refine h.trans ⟨rfl,rfl,rfl,by omega,fun g _ hp=>Below.heap_setCell b ⟨P,i,none⟩ v g hp⟩
end
def PsA (P T:Nat)(w:World)(p:Ps):Prop:=∃ a c o,w.heap[P]? =some (.cells #[.slice a p.toks.length c,.int .i64 p.fin,.int .i64 p.blk,.bool p.inD,.int .i64 p.deep] 194 (0,0))∧p.toks.length≤c∧0≤c∧(0<p.toks.length→a=some ⟨T,o,none⟩)∧(∀ j,j<p.toks.length*4→w.cell? ⟨T,o+j,none⟩=(tcs p.toks)[j]?)∧T≠P∧T<w.heap.size∧p.deep≤1000∧p.blk≤1000000
section
variable {P T:Nat} {w w':World} {p:Ps}
theorem PsA.lt (h:PsA P T w p):P<w.heap.size:=by
 obtain⟨a,c,o,h,_⟩:=h
 exact(Array.getElem?_eq_some_iff.1 h).1
theorem PsA.keep (h:PsA P T w p)(hP:w'.heap[P]? =w.heap[P]?)(hT:w'.heap[T]? =w.heap[T]?):PsA P T w' p:=by
 obtain⟨a,c,o,h1,h2,h3,h4,h5,h6,h7,h8⟩:=h
 have hlt:T<w'.heap.size:=by
  have:w.heap[T]? =some w.heap[T]:=Array.getElem?_eq_getElem h7
  exact(Array.getElem?_eq_some_iff.1 (hT.trans this)).1
 refine⟨a,c,o,hP.trans h1,h2,h3,h4,fun j hj=>?_,h6,hlt,h8⟩
 rw[←h5 j hj]
 simp[World.cell?,hT]
theorem PsA.up (h:PsA P T w p)(hb:Below w.heap.size w w'):PsA P T w' p:=h.keep (hb.block _ h.lt) (hb.block _ (by obtain⟨_,_,_,_,_,_,_,_,_,h7,_⟩:=h;exact h7))
theorem PsA.drewN (h:PsA P T w p)(n:Nat):PsA P T (w.drewN n) p:=h.keep rfl rfl
end
def PoA {α:Type}(P T:Nat)(V:World→α→Value→Prop)(w:World)(z:Except Ft (α×Ps))(e:Ending)(w':World):Prop:=match z with
 | .error (k,x)=>e=PF k x∧KP P w w'
 | .ok (a,q)=>∃ v,e= .returned v∧V w' a v∧PsA P T w' q∧KP P w w'
end Go.Proofs.YthfgpkdbclogpaaGreatDoor
namespace Go.Proofs.YthfgpkdbclogpaaGreatDoor
open Go.RowKit
abbrev ptB (b:Nat):Value:= .pointer (some ⟨b,0,none⟩)
abbrev fnR (r:Nat):Value:= .func (.func 58) #[ptB r] #[]
abbrev fnC (r:Nat):Array Value:=#[fnR r,.slice none 0 0,.slice none 0 0,.map none,.bool false]
abbrev fnI (p:Nat):Value:= .iface 81 (ptB p)
def RuleAt (B r:Nat)(w:World)(p:Nat):Prop:=B≤p∧w.heap[p]? =some (.cells (fnC r) 102 (0,0))
theorem plain_any (n:Int)(f:Fn)(x c:Array Value)(w:World):Calls Tryz.prog 38 #[.int .i64 n,.func f x c] w fun e w'=>∃ b,e= .returned (ptB b)∧Below w.heap.size w w':=by
 have hmf:∀ (fn:Fn) (first cap:Array Value) (w:World),(Instr.makeFunc fn first cap).run Tryz.prog w= .ok (.func fn first cap) w:=fun _ _ _ _=>rfl
 go_enter Tryz.func38,Tryz.ntmps38
 go_wp2
 go_ret
 exact⟨_,rfl,(((Below.refl _ w).alloc (Nat.le_refl _) _).alloc (by simp) _).alloc (by simp;omega) _⟩
abbrev arrB (V:Nat→Value):Array Value:=#[V 0,V 1,V 2,V 3,V 4,V 5,V 6,V 7,V 8,V 9,V 10,V 11,V 12,V 13,V 14,V 15,V 16,V 17,V 18,V 19,V 20,V 21,V 22,V 23,V 24,V 25]
def updB (V:Nat→Value)(t:Nat)(v:Value):Nat→Value:=fun j=>if j=t then v else V j
theorem arrB_set (V:Nat→Value)(v:Value):∀ t,t<26→(arrB V).setIfInBounds t v=arrB (updB V t v):=by
 intro t ht
 rcases(show t=0∨t=1∨t=2∨t=3∨t=4∨t=5∨t=6∨t=7∨t=8∨t=9∨t=10∨t=11∨t=12∨t=13∨t=14∨t=15∨t=16∨t=17∨t=18∨t=19∨t=20∨t=21∨t=22∨t=23∨t=24∨t=25 by omega)with rfl|rfl|rfl|rfl|rfl|rfl|rfl|rfl|rfl|rfl|rfl|rfl|rfl|rfl|rfl|rfl|rfl|rfl|rfl|rfl|rfl|rfl|rfl|rfl|rfl|rfl
 all_goals rfl
def dstL:List Nat:=[3,4,5,99,6,7,8,99,9,10,99,11,12,99,13,14,99,15,16,17,99,18,19,99,20,21,22,23,24,99,25,2]
abbrev dstB (i:Nat):Nat:=dstL.getD i 99
def shB (B r i:Nat)(w:World)(v:Value):Prop:=
 if i∈[1,5,8,11,14,18,21]then ∃ b,v=ptB b
 else if i∈[2,6,9,12,15,19,22]then ∃ u,v= .iface 81 u
 else if i∈[4,17]then ∃ f c,v= .func f #[] c
 else if i=24 then v=ptB r
 else if i=25 then v=fnR r
 else if i=26 then v= .agg (fnC r)
 else if i=27 then ∃ p,v=ptB p∧RuleAt B r w p
 else if i=28 then ∃ p,v=fnI p∧RuleAt B r w p
 else True
theorem shB_mono {B r i:Nat}{w w':World}{v:Value}(hm:∀ p,RuleAt B r w p→RuleAt B r w' p)(h:shB B r i w v):shB B r i w' v:=by
 unfold shB at h ⊢
 split
 ·rename_i a;rw[if_pos a]at h;exact h
 rename_i a;rw[if_neg a]at h
 split
 ·rename_i a;rw[if_pos a]at h;exact h
 rename_i a;rw[if_neg a]at h
 split
 ·rename_i a;rw[if_pos a]at h;exact h
 rename_i a;rw[if_neg a]at h
 split
 ·rename_i a;rw[if_pos a]at h;exact h
 rename_i a;rw[if_neg a]at h
 split
 ·rename_i a;rw[if_pos a]at h;exact h
 rename_i a;rw[if_neg a]at h
 split
 ·rename_i a;rw[if_pos a]at h;exact h
 rename_i a;rw[if_neg a]at h
 split
 ·rename_i a;rw[if_pos a]at h;exact h.imp fun p q=>⟨q.1,hm p q.2⟩
 rename_i a;rw[if_neg a]at h
 split
 ·rename_i a;rw[if_pos a]at h;exact h.imp fun p q=>⟨q.1,hm p q.2⟩
 ·exact trivial
def kRule:List UInt8:=[114,117,108,101]
def mpB (B r:Nat)(L:Array Bool)(w:World)(v:Value):Prop:=∃ M k E,v= .map (some M)∧MV w M k E∧k+cntU L 32≤1000∧B≤M∧(L.getD 29 false=true→∃ p,lkE E kRule=some (fnI p)∧RuleAt B r w p)
def NbI (B r bx:Nat)(w0:World)(L:Array Bool)(a:Act)(w:World):Prop:=∃ V:Nat→Value,a=⟨arrB V,[]⟩∧V 1=ptB bx∧Below B w0 w∧(∀ i,i<30→L.getD i false=true→shB B r i w (V (dstB i)))∧(L.getD 0 false=true→mpB B r L w (V 3))∧(L.getD 30 false=true→V 25=V 3)∧(L.getD 31 false=true→V 2=V 25)
theorem dst_apart:∀ i,i<32→∀ j,j<32→dstB i<26→i≠j→dstB j≠dstB i:=by decide
section
variable {B r bx:Nat} {w0 w w':World} {L:Array Bool} {V:Nat→Value} {i:Nat} {v:Value}
theorem setL (j:Nat)(h:(L.setIfInBounds i true).getD j false=true):j=i∨L.getD j false=true:=by
 rw[getD_set]at h
 by_cases he:j=i∧j<L.size
 ·exact .inl he.1
 ·rw[if_neg he]at h
  exact .inr h
theorem RuleAt.up (hb:Below w.heap.size w w')(p:Nat)(h:RuleAt B r w p):RuleAt B r w' p:=⟨h.1,(hb.block p (Array.getElem?_eq_some_iff.1 h.2).1).trans h.2⟩
theorem NbI.val (h1:V 1=ptB bx)(h2:Below B w0 w)(h3:∀ i,i<30→L.getD i false=true→shB B r i w (V (dstB i)))(h4:L.getD 0 false=true→mpB B r L w (V 3))
  (hi:i<30) (hi0:i≠0) (hd:dstB i<26) (h30:L.getD 30 false=false) (h31:L.getD 31 false=false) (hb:Below w.heap.size w w') (hB:B≤w.heap.size) (hv:shB B r i w' v):
  NbI B r bx w0 (L.setIfInBounds i true) ((⟨arrB V,[]⟩:Act).put (some (dstB i)) v) w':=by
 have ap:=dst_apart i (by omega)
 refine⟨updB V (dstB i) v,?_,?_,Below.trans h2 (hb.mono hB),fun j hj hq=>?_,fun hq=>?_,fun hq=>?_,fun hq=>?_⟩
 ·show(⟨(arrB V).setIfInBounds (dstB i) v,[]⟩:Act)=_
  rw[arrB_set V v _ hd]
 ·have:∀ i,i<32→dstB i≠1:=by decide
  show(if 1=dstB i then v else V 1)=_
  rw[if_neg (fun e=>this i (by omega) e.symm)]
  exact h1
 ·rcases setL j hq with rfl|hq
  ·show shB B r j w' (if dstB j=dstB j then v else _)
   rw[if_pos rfl]
   exact hv
  ·by_cases he:j=i
   ·subst he
    show shB B r j w' (if dstB j=dstB j then v else _)
    rw[if_pos rfl]
    exact hv
   ·show shB B r j w' (if dstB j=dstB i then v else V (dstB j))
    rw[if_neg (ap j (by omega) hd (fun e=>he e.symm))]
    exact shB_mono (RuleAt.up hb) (h3 j hj hq)
 ·rcases setL 0 hq with he|hq
  ·exact absurd he.symm hi0
  ·obtain⟨M,k,E,e1,e2,e3,e4,e5⟩:=h4 hq
   refine⟨M,k,E,?_,omapV e2 (hb.block M e2.lt),?_,e4,fun hq=>?_⟩
   ·show(if 3=dstB i then v else V 3)=_
    rw[if_neg (fun e=>ap 0 (by omega) hd hi0 (by rw[←e];rfl))]
    exact e1
   ·have:=cntU_le L i 32
    omega
   ·rcases setL 29 hq with he|hq
    ·exact absurd (by rw[←he]at hd;exact hd) (show ¬dstB 29<26 by decide)
    ·obtain⟨p,q1,q2⟩:=e5 hq
     exact⟨p,q1,q2.up hb⟩
 ·rcases setL 30 hq with he|hq
  ·omega
  ·rw[h30]at hq;cases hq
 ·rcases setL 31 hq with he|hq
  ·omega
  ·rw[h31]at hq;cases hq
theorem rule_put {M:Nat}{k:Nat}{E:List (List UInt8×Value)}(mv:MV w M k E)(hm:w.mapTurned w' M)(p:Nat)(h:RuleAt B r w p):RuleAt B r w' p:=by
 refine⟨h.1,(hm.grown.block p (Array.getElem?_eq_some_iff.1 h.2).1 fun e=>?_).trans h.2⟩
 obtain⟨es,clock,hb,_⟩:=mv
 have h2:=h.2
 rw[Option.some.inj e,hb]at h2
 cases h2
theorem NbI.ins {M k:Nat}{E:List (List UInt8×Value)}{key:List UInt8}{u:Value}(h1:V 1=ptB bx)(h2:Below B w0 w)(h3:∀ i,i<30→L.getD i false=true→shB B r i w (V (dstB i)))(e1:V 3= .map (some M))(e2:MV w M k E)(e3:k+cntU L 32≤1000)(e4:B≤M)
  (hL:L.size=32) (hu:L.getD i true=false) (hi:i<30) (hd:dstB i=99) (h30:L.getD 30 false=false) (h31:L.getD 31 false=false) (hB:B≤w.heap.size) (mv:MV w' M (k+1) ((key,u)::E)) (hm:w.mapTurned w' M)
  (hR:(L.setIfInBounds i true).getD 29 false=true→∃ p,lkE ((key,u)::E) kRule=some (fnI p)∧RuleAt B r w p):
  NbI B r bx w0 (L.setIfInBounds i true) ⟨arrB V,[]⟩ w':=by
 have hg:=hm.grown
 have hb:Below B w w':=⟨hg.os,hg.tape,hg.output,hg.size,fun j hj=>hg.block j (by omega) (fun e=>by have:=Option.some.inj e;omega)⟩
 refine⟨V,rfl,h1,Below.trans h2 hb,fun j hj hq=>?_,fun _=>⟨M,k+1,_,e1,mv,?_,e4,fun hq=>?_⟩,fun hq=>?_,fun hq=>?_⟩
 ·rcases setL j hq with rfl|hq
  ·have hx:∀ j,j<30→dstB j=99→j∈[3,7,10,13,16,20,23,29]:=by decide
   have:=hx j hj hd
   simp only[List.mem_cons,List.not_mem_nil,or_false]at this
   rcases this with rfl|rfl|rfl|rfl|rfl|rfl|rfl|rfl
   all_goals
    unfold shB
    simp
  ·exact shB_mono (rule_put e2 hm) (h3 j hj hq)
 ·have:=cntU_lt L i (by omega) hu 32 (by omega)
  omega
 ·obtain⟨p,q1,q2⟩:=hR hq
  exact⟨p,q1,rule_put e2 hm p q2⟩
 ·rcases setL 30 hq with he|hq
  ·omega
  ·rw[h30]at hq;cases hq
 ·rcases setL 31 hq with he|hq
  ·omega
  ·rw[h31]at hq;cases hq
theorem getD_no {L:Array Bool}{j:Nat}(h:¬L.getD j false=true):L.getD j false=false:=by simpa using h
theorem NbI.mk0 (h1:V 1=ptB bx)(h2:Below B w0 w)(h3:∀ i,i<30→L.getD i false=true→shB B r i w (V (dstB i)))(h29:L.getD 29 false=false)(h30:L.getD 30 false=false)(h31:L.getD 31 false=false)(hB:B≤w.heap.size):
  NbI B r bx w0 (L.setIfInBounds 0 true) ((⟨arrB V,[]⟩:Act).put (some 3) (.map (some w.heap.size))) (w.alloc (.map #[] 0)):=by
 have hb:Below w.heap.size w (w.alloc (.map #[] 0)):=(Below.refl _ w).alloc (Nat.le_refl _) _
 refine⟨updB V 3 (.map (some w.heap.size)),?_,h1,Below.trans h2 (hb.mono hB),fun j hj hq=>?_,fun _=>⟨w.heap.size,0,[],rfl,MV.made w,?_,hB,fun hq=>?_⟩,fun hq=>?_,fun hq=>?_⟩
 ·show(⟨(arrB V).setIfInBounds 3 (.map (some w.heap.size)),[]⟩:Act)=_
  rw[arrB_set V _ 3 (by decide)]
 ·rcases setL j hq with rfl|hq
  ·unfold shB
   simp
  ·by_cases he:j=0
   ·subst he
    unfold shB
    simp
   ·show shB B r j _ (if dstB j=3 then _ else V (dstB j))
    rw[if_neg (show ¬dstB j=3 from dst_apart 0 (by omega) j (by omega) (by decide) (fun e=>he e.symm))]
    exact shB_mono (RuleAt.up hb) (h3 j hj hq)
 ·have:=cntU_bd (L.setIfInBounds 0 true) 32
  omega
 ·rcases setL 29 hq with he|hq
  ·omega
  ·rw[h29]at hq;cases hq
 ·rcases setL 30 hq with he|hq
  ·omega
  ·rw[h30]at hq;cases hq
 ·rcases setL 31 hq with he|hq
  ·omega
  ·rw[h31]at hq;cases hq
theorem NbI.end0 (h1:V 1=ptB bx)(h2:Below B w0 w)(h3:∀ i,i<30→L.getD i false=true→shB B r i w (V (dstB i)))(h4:L.getD 0 false=true→mpB B r L w (V 3))(h31:L.getD 31 false=false):
  NbI B r bx w0 (L.setIfInBounds 30 true) ((⟨arrB V,[]⟩:Act).put (some 25) (V 3)) w:=by
 refine⟨updB V 25 (V 3),?_,h1,h2,fun j hj hq=>?_,fun hq=>?_,fun _=>rfl,fun hq=>?_⟩
 ·show(⟨(arrB V).setIfInBounds 25 (V 3),[]⟩:Act)=_
  rw[arrB_set V _ 25 (by decide)]
 ·rcases setL j hq with rfl|hq
  ·omega
  ·show shB B r j _ (if dstB j=25 then _ else V (dstB j))
   rw[if_neg (show ¬dstB j=25 from dst_apart 30 (by omega) j (by omega) (by decide) (fun e=>by omega))]
   exact h3 j hj hq
 ·rcases setL 0 hq with he|hq
  ·omega
  ·obtain⟨M,k,E,e1,e2,e3,e4,e5⟩:=h4 hq
   refine⟨M,k,E,e1,e2,by have:=cntU_le L 30 32;omega,e4,fun hq=>?_⟩
   rcases setL 29 hq with he|hq
   ·omega
   ·exact e5 hq
 ·rcases setL 31 hq with he|hq
  ·omega
  ·rw[h31]at hq;cases hq
theorem NbI.end1 (h1:V 1=ptB bx)(h2:Below B w0 w)(h3:∀ i,i<30→L.getD i false=true→shB B r i w (V (dstB i)))(h4:L.getD 0 false=true→mpB B r L w (V 3))(h5:L.getD 30 false=true→V 25=V 3):
  NbI B r bx w0 (L.setIfInBounds 31 true) ((⟨arrB V,[]⟩:Act).put (some 2) (V 25)) w:=by
 refine⟨updB V 2 (V 25),?_,h1,h2,fun j hj hq=>?_,fun hq=>?_,fun hq=>?_,fun _=>rfl⟩
 ·show(⟨(arrB V).setIfInBounds 2 (V 25),[]⟩:Act)=_
  rw[arrB_set V _ 2 (by decide)]
 ·rcases setL j hq with rfl|hq
  ·omega
  ·show shB B r j _ (if dstB j=2 then _ else V (dstB j))
   rw[if_neg (show ¬dstB j=2 from dst_apart 31 (by omega) j (by omega) (by decide) (fun e=>by omega))]
   exact h3 j hj hq
 ·rcases setL 0 hq with he|hq
  ·omega
  ·obtain⟨M,k,E,e1,e2,e3,e4,e5⟩:=h4 hq
   refine⟨M,k,E,e1,e2,by have:=cntU_le L 31 32;omega,e4,fun hq=>?_⟩
   rcases setL 29 hq with he|hq
   ·omega
   ·exact e5 hq
 ·rcases setL 30 hq with he|hq
  ·omega
  ·exact h5 hq
end
def val:List UInt8→Nat
 |[]=>0
 |c::r=>c.toNat%128+128*val r
theorem size_of {s:ByteArray}{l:List UInt8}(h:s.data.toList=l):s.size=l.length:=by rw[←h];exact Array.length_toList.symm
end Go.Proofs.YthfgpkdbclogpaaGreatDoor
namespace Go.Proofs.YthfgpkdbclogpaaGreatDoor
open Go.RowKit Go.Shelf
def nmB (c:Int):Bool:=decide (97≤c∧c≤122)||decide (48≤c∧c≤57)||(c==95)||(c==45)||(c==46)
theorem isNameByte_any (c:Int)(w:World)(h0:0≤c)(h1:c<256):
  Calls Tryz.prog 123 #[.int .u8 c] w fun e w'=>e= .returned (.bool (nmB c))∧w'=w:=by
 by_cases a1:97≤c
 ·by_cases a2:c≤122
  ·go_enter Tryz.func123,Tryz.ntmps123
   go_wp2
   go_ret
   exact⟨by simp[nmB,a1,a2],rfl⟩
  ·have e1:(c==95)=false:=by simp;omega
   have e2:(c==45)=false:=by simp;omega
   have e3:(c==46)=false:=by simp;omega
   have d1:decide (c≤57)=false:=by simp;omega
   have d2:decide (c≤122)=false:=by simp;omega
   have HF:Hid (nmB c=false):=by show _=_;simp[nmB,e1,e2,e3];omega
   clear a2
   go_enter Tryz.func123,Tryz.ntmps123
   go_wp2
   go_ret
   exact⟨by rw[HF.out];rfl,rfl⟩
 ·by_cases a2:48≤c∧c≤57
  ·obtain⟨a2,a3⟩:=a2
   go_enter Tryz.func123,Tryz.ntmps123
   go_wp2
   go_ret
   exact⟨by simp[nmB,a2,a3],rfl⟩
  ·by_cases b1:c=95
   ·subst b1
    go_enter Tryz.func123,Tryz.ntmps123
    go_wp2
    go_ret
    exact⟨by rw[show nmB 95=true from by decide];rfl,rfl⟩
   ·by_cases b2:c=45
    ·subst b2
     go_enter Tryz.func123,Tryz.ntmps123
     go_wp2
     go_ret
     exact⟨by rw[show nmB 45=true from by decide];rfl,rfl⟩
    ·by_cases b3:c=46
     ·subst b3
      go_enter Tryz.func123,Tryz.ntmps123
      go_wp2
      go_ret
      exact⟨by rw[show nmB 46=true from by decide];rfl,rfl⟩
     ·have e1:(c==95)=false:=by simpa using b1
      have e2:(c==45)=false:=by simpa using b2
      have e3:(c==46)=false:=by simpa using b3
      have hf:nmB c=false:=by simp[nmB,e1,e2,e3];omega
      have HF:Hid _:=hf
      clear hf b1 b2 b3
      rcases Int.lt_or_le c 48 with a3|a3
      ·clear a2
       go_enter Tryz.func123,Tryz.ntmps123
       go_wp2
       go_ret
       exact⟨by rw[HF.out];rfl,rfl⟩
      ·have a4:decide (c≤57)=false:=by simp;omega
       clear a2
       go_enter Tryz.func123,Tryz.ntmps123
       go_wp2
       go_ret
       exact⟨by rw[HF.out];rfl,rfl⟩
def nameOk (s:ByteArray):Bool:=!(s.toList==[])&&decide (s.size≤20)&&!(s.toList==[46])&&!(s.toList==[46,46])&&(s.toList.all fun c=>nmB c.toNat)
theorem toList_get (s:ByteArray)(k:Nat)(h:k<s.size):s.toList[k]? =some s[k]:=by
 rw[Lib.toList_data]
 have:k<s.data.toList.length:=by rw[←size_of (s:=s) rfl];exact h
 rw[List.getElem?_eq_getElem this]
 rfl
theorem all_false (s:ByteArray)(k:Nat)(h:k<s.size)(f:UInt8→Bool)(hf:f s[k]=false):s.toList.all f=false:=by
 rw[List.all_eq_false]
 exact⟨s[k],List.mem_of_getElem? (toList_get s k h),by simp[hf]⟩
theorem all_true (s:ByteArray)(f:UInt8→Bool)(hf:∀ j (hj:j<s.size),f s[j]=true):s.toList.all f=true:=by
 rw[List.all_eq_true]
 intro c hc
 obtain⟨j,hj,rfl⟩:=List.getElem_of_mem hc
 have hj':j<s.size:=by rw[Lib.toList_data]at hj;rw[size_of (s:=s) rfl];exact hj
 have:=toList_get s j hj'
 rw[List.getElem?_eq_getElem hj]at this
 rw[Option.some.inj this]
 exact hf j hj'
theorem IsName_any (s:ByteArray)(w:World)(hs:s.size≤maxLen):
  Calls Tryz.prog 85 #[.string s] w fun e w'=>e= .returned (.bool (nameOk s))∧w'=w:=by
 have hsz:(s.size:Int)≤9223372036854775807:=by unfold maxLen at hs;omega
 clear hs
 by_cases h1:s.toList.isEmpty=true
 ·have HF:Hid (nameOk s=false):=by show _=_;rw[List.isEmpty_iff]at h1;simp[nameOk,h1]
  go_enter Tryz.func85,Tryz.ntmps85
  go_wp2
  go_ret
  exact⟨by rw[HF.out];rfl,rfl⟩
 have h1':s.toList.isEmpty=false:=by simpa using h1
 have h1n:(s.toList==[])=false:=by cases h:s.toList<;>simp_all
 have H1:Hid _:=h1n
 clear h1 h1n
 by_cases h2:20<s.size
 ·have h2':(20:Int)<s.size:=by omega
  have HF:Hid (nameOk s=false):=by show _=_;simp[nameOk,Nat.not_le.2 h2]
  clear h2
  go_enter Tryz.func85,Tryz.ntmps85
  go_wp2
  go_ret
  exact⟨by rw[HF.out];rfl,rfl⟩
 have h2':(s.size:Int)≤20:=by omega
 have H2:Hid (s.size≤20):=Nat.le_of_not_lt h2
 clear h2
 by_cases h3:(s.toList==[46])=true
 ·have HF:Hid (nameOk s=false):=by show _=_;simp[nameOk,h3]
  go_enter Tryz.func85,Tryz.ntmps85
  go_wp2
  go_ret
  exact⟨by rw[HF.out];rfl,rfl⟩
 have h3':(s.toList==[46])=false:=by simpa using h3
 clear h3
 by_cases h4:(s.toList==[46,46])=true
 ·have HF:Hid (nameOk s=false):=by show _=_;simp[nameOk,h4]
  go_enter Tryz.func85,Tryz.ntmps85
  go_wp2
  go_ret
  exact⟨by rw[HF.out];rfl,rfl⟩
 have h4':(s.toList==[46,46])=false:=by simpa using h4
 clear h4
 have HN:Hid (nameOk s=s.toList.all fun c=>nmB c.toNat):=by show _=_;simp only[nameOk,H1.out,h3',h4',H2.out];simp
 go_enter Tryz.func85,Tryz.ntmps85
 go_wp2
 go_loop [21] (fun i=>∃ k:Nat,k≤s.size∧i= .int .i64 k∧∀ j (hj:j<s.size),j<k→nmB s[j].toNat=true) (fun i=>s.size-(intOf i).toNat)
 case atStart=>exact⟨0,Nat.zero_le _,rfl,by omega⟩
 case round=>
  obtain⟨k,hk,rfl,hlo⟩:=hrel
  have HL:Hid _:=hlo
  clear hlo
  by_cases hlt:k<s.size
  ·by_cases hb:nmB s[k].toNat=true
   ·go_wp2_with (go_at_call 123;refine(isNameByte_any _ _ (by omega) (by have:=s[k].toNat_lt;omega)).mono ?_;rintro e w' ⟨rfl,rfl⟩;rw[hb])
    refine⟨⟨k+1,by omega,by go_num,fun j hj hjk=>?_⟩,by simp[intOf];omega⟩
    by_cases h:j<k
    ·exact HL.out j hj h
    ·obtain rfl:j=k:=by omega
     exact hb
   ·have hb':nmB s[k].toNat=false:=by simpa using hb
    clear hb
    have HF:Hid (nameOk s=false):=by show _=_;rw[HN.out];exact all_false s k hlt _ hb'
    go_wp2_with (go_at_call 123;refine(isNameByte_any _ _ (by omega) (by have:=s[k].toNat_lt;omega)).mono ?_;rintro e w' ⟨rfl,rfl⟩;rw[hb'])
    go_ret
    exact⟨by rw[HF.out];rfl,rfl⟩
  ·have HF:Hid (nameOk s=true):=by show _=_;rw[HN.out];exact all_true s _ (fun j hj=>HL.out j hj (by omega))
   go_wp2
   go_ret
   exact⟨by rw[HF.out];rfl,rfl⟩
end Go.Proofs.YthfgpkdbclogpaaGreatDoor
namespace Go.Proofs.YthfgpkdbclogpaaGreatDoor
open Go.RowKit Go.Shelf
abbrev pt (b:Nat):Value:= .pointer (some ⟨b,0,none⟩)
theorem tcs_at (t:Tk)(r:List Tk):(tcs (t::r))[0]? =some (.int .i64 t.kind)∧(tcs (t::r))[1]? =some (.string (mkB t.text))∧(tcs (t::r))[2]? =some (.int .i64 t.num)∧(tcs (t::r))[3]? =some (.int .i64 t.pos):=⟨rfl,rfl,rfl,rfl⟩
theorem PsA.cells {P T:Nat}{w:World}{p:Ps}(h:PsA P T w p):∃ a c,w.cell? ⟨P,0,none⟩=some (.slice a p.toks.length c)∧w.cell? ⟨P,1,none⟩=some (.int .i64 p.fin)∧w.cell? ⟨P,2,none⟩=some (.int .i64 p.blk)∧w.cell? ⟨P,3,none⟩=some (.bool p.inD)∧w.cell? ⟨P,4,none⟩=some (.int .i64 p.deep)∧
  ∀ t r,p.toks=t::r→∃ o,a=some ⟨T,o,none⟩∧w.cell? ⟨T,o,none⟩=some (.int .i64 t.kind)∧w.cell? ⟨T,o+1,none⟩=some (.string (mkB t.text))∧w.cell? ⟨T,o+2,none⟩=some (.int .i64 t.num)∧w.cell? ⟨T,o+3,none⟩=some (.int .i64 t.pos):=by
 obtain⟨a,c,o,h1,h2,h3,h4,h5,h6,h7,h8⟩:=h
 refine⟨a,c,by rw[Lib.cell_of_heap h1];rfl,by rw[Lib.cell_of_heap h1];rfl,by rw[Lib.cell_of_heap h1];rfl,by rw[Lib.cell_of_heap h1];rfl,by rw[Lib.cell_of_heap h1];rfl,fun t r hp=>?_⟩
 rw[hp]at h4 h5
 refine⟨o,h4 (by simp),?_,?_,?_,?_⟩
 ·have:=h5 0 (by simp);rwa [(tcs_at t r).1]at this
 ·have:=h5 1 (by simp;omega);rwa [(tcs_at t r).2.1]at this
 ·have:=h5 2 (by simp;omega);rwa [(tcs_at t r).2.2.1]at this
 ·have:=h5 3 (by simp;omega);rwa [(tcs_at t r).2.2.2]at this
theorem fld0 (a b c d:Value)(w:World):(Instr.field 255 (.agg #[a,b,c,d]) 0).run Tryz.prog w= .ok a w:=by
 simp[Instr.field,asAgg,run_underlying Tryz.underlying255,go_sem,Result.andThen]
theorem fld1 (a b c d:Value)(w:World):(Instr.field 255 (.agg #[a,b,c,d]) 1).run Tryz.prog w= .ok b w:=by
 simp[Instr.field,asAgg,run_underlying Tryz.underlying255,go_sem,Result.andThen]
theorem fld2 (a b c d:Value)(w:World):(Instr.field 255 (.agg #[a,b,c,d]) 2).run Tryz.prog w= .ok c w:=by
 simp[Instr.field,asAgg,run_underlying Tryz.underlying255,go_sem,Result.andThen]
theorem fld3 (a b c d:Value)(w:World):(Instr.field 255 (.agg #[a,b,c,d]) 3).run Tryz.prog w= .ok d w:=by
 simp[Instr.field,asAgg,run_underlying Tryz.underlying255,go_sem,Result.andThen]
attribute [local go_sem ↓] fld0 fld1 fld2 fld3
theorem alB (w:World)(o:Obj):Below w.heap.size w (w.alloc o):=(Below.refl _ w).alloc (Nat.le_refl _) _
abbrev tz:Obj:= .cells #[.int .i64 0,.string ⟨#[]⟩,.int .i64 0,.int .i64 0] 255
theorem next_any {P T:Nat}{w:World}{p:Ps}(h:PsA P T w p):
  Calls Tryz.prog 245 #[pt P] w fun e w'=>e= .returned (.agg #[.int .i64 p.nx.kind,.string (mkB p.nx.text),.int .i64 p.nx.num,.int .i64 p.nx.pos])∧Below w.heap.size w w':=by
 have hW:=h.up (alB w tz)
 obtain⟨a,c,c0,c1,_,_,_,hc⟩:=hW.cells
 clear hW
 cases hp:p.toks with
 |nil=>
  have hn:p.nx=⟨0,[],0,p.fin⟩:=by unfold Ps.nx;rw[hp]
  rw[hn]
  rw[hp]at c0
  clear hc h
  go_enter Tryz.func245,Tryz.ntmps245
  go_wp2
  refine bodyPost_ret (v:= .agg #[.int .i64 (⟨0,[],0,p.fin⟩:Tk).kind,.string (mkB (⟨0,[],0,p.fin⟩:Tk).text),.int .i64 (⟨0,[],0,p.fin⟩:Tk).num,.int .i64 (⟨0,[],0,p.fin⟩:Tk).pos]) (by simp[results,Tryz.results245,go_sem,mkB]) rfl ⟨rfl,alB w _⟩
 |cons t r=>
  have hn:p.nx=t:=by unfold Ps.nx;rw[hp]
  rw[hn]
  rw[hp]at c0
  obtain⟨o,rfl,d0,d1,d2,d3⟩:=hc t r hp
  rw[List.length_cons]at c0
  clear hc h
  go_enter Tryz.func245,Tryz.ntmps245
  go_wp2
  refine bodyPost_ret (v:= .agg #[.int .i64 t.kind,.string (mkB t.text),.int .i64 t.num,.int .i64 t.pos]) (by simp[results,Tryz.results245,go_sem,mkB]) rfl ⟨rfl,alB w _⟩
theorem pGiveUp_any {P T:Nat}{w:World}{p:Ps}(h:PsA P T w p)(k:Nat):
  Calls Tryz.prog 289 #[pt P,.int .i64 k] w fun e w'=>e=PF k p.nx.pos∧Below w.heap.size w w':=by
 have HN:=next_any h
 clear h
 generalize p.nx=t at *
 go_enter Tryz.func289,Tryz.ntmps289
 go_wp2_with fail
 refine HN.mono ?_
 rintro e w1 ⟨rfl,hb⟩
 go_wp2
 exact⟨rfl,rfl,hb⟩
theorem giveUpIf_any {P T:Nat}{w:World}{p:Ps}(h:PsA P T w p)(b:Bool)(k:Nat):
  Calls Tryz.prog 250 #[pt P,.bool b,.int .i64 k] w fun e w'=>(e=bif b then PF k p.nx.pos else .returned (.tuple #[]))∧Below w.heap.size w w':=by
 have HN:=pGiveUp_any h k
 clear h
 generalize p.nx=t at *
 go_enter Tryz.func250,Tryz.ntmps250
 cases b with
 |true=>
  go_wp2_with fail
  refine HN.mono ?_
  rintro e w1 ⟨rfl,hb⟩
  exact⟨rfl,rfl,hb⟩
 |false=>
  clear HN
  go_wp2
  go_end0
  exact⟨rfl,Below.refl _ _⟩
theorem sees2_any {P T:Nat}{w:World}{p:Ps}(h:PsA P T w p)(k:Nat):
  Calls Tryz.prog 257 #[pt P,.int .i64 k] w fun e w'=>e= .returned (.bool (p.nx.kind==k))∧Below w.heap.size w w':=by
 have HN:=next_any h
 clear h
 generalize p.nx=t at *
 have hq:(((t.kind:Nat):Int)==(k:Int))=(t.kind==k):=by rw[Bool.eq_iff_iff];simp;omega
 go_enter Tryz.func257,Tryz.ntmps257
 go_wp2_with fail
 refine HN.mono ?_
 rintro e w1 ⟨rfl,hb⟩
 go_wp2
 go_ret
 exact⟨rfl,hb⟩
def SgA (P:Nat)(w:World)(v:Value)(l:List (List UInt8)):Prop:=∃ ao c,v= .slice ao l.length c∧l.length≤1000000∧(0<l.length→∃ g,ao=some ⟨g,0,none⟩∧g<w.heap.size∧g≠P∧∀ j (hj:j<l.length),w.cell? ⟨g,j,none⟩=some (.string (mkB l[j])))
theorem SgA.keep {P:Nat}{w w':World}{v:Value}{l:List (List UInt8)}(h:SgA P w v l)(hk:KP P w w'):SgA P w' v l:=by
 obtain⟨ao,c,hv,hl,hg⟩:=h
 refine⟨ao,c,hv,hl,fun h0=>?_⟩
 obtain⟨g,h1,h2,h3,h4⟩:=hg h0
 refine⟨g,h1,Nat.lt_of_lt_of_le h2 hk.size,h3,fun j hj=>?_⟩
 rw[←h4 j hj]
 simp[World.cell?,hk.blk g h2 h3]
theorem containsT_any {P:Nat}{w:World}{v:Value}{l:List (List UInt8)}(h:SgA P w v l)(x:List UInt8):
  Calls Tryz.prog 97 #[v,.string (mkB x)] w fun e w'=>e= .returned (.bool (l.contains x))∧w'=w:=by
 obtain⟨ao,c,rfl,hn,hm⟩:=h
 have HM:Hid (0<l.length→∃ g,ao=some ⟨g,0,none⟩∧g<w.heap.size∧g≠P∧∀ j (hj:j<l.length),w.cell? ⟨g,j,none⟩=some (.string (mkB l[j]))):=hm
 have hn1:(l.length:Int)≤1000000:=by omega
 obtain⟨b,hb⟩:∃ b,b=l.contains x:=⟨_,rfl⟩
 have HB:Hid (b=true↔x∈l):=by show _↔_;rw[hb];simp
 rw[←hb]
 have HI:Hid (Calls Tryz.prog 132 #[.slice ao l.length c,.string (mkB x)] w fun e w'=>IdxP b e∧w'=w):=by
  clear hm hn hb
  go_enter Tryz.func132,Tryz.ntmps132
  go_wp2
  go_loop [8] (fun i=>∃ k:Nat,k≤l.length∧i= .int .i64 k∧Hid (x∉l.take k)) (fun i=>l.length-(intOf i).toNat)
  case atStart=>exact⟨0,Nat.zero_le _,rfl,by show _∉_;simp⟩
  case round=>
   obtain⟨k,hk,rfl,HK⟩:=hrel
   by_cases hlt:k<l.length
   ·have hki:(k:Int)<(l.length:Int):=by omega
    obtain⟨g,rfl,_,_,hcc⟩:=HM.out (by omega)
    have ck:=hcc k hlt
    by_cases he:x=l[k]
    ·have hq:((mkB x).toList==(mkB l[k]).toList)=true:=by rw[he];simp
     have HBT:Hid (b=true):=HB.out.2 (by rw[he];exact List.getElem_mem hlt)
     generalize l[k]=y at ck hq
     clear he hcc
     go_wp2
     go_ret
     exact⟨⟨(k:Int),fun h=>(by rw[HBT.out]at h;cases h),fun _=>by omega,rfl⟩,rfl⟩
    ·have hq:((mkB x).toList==(mkB l[k]).toList)=false:=by rw[mk_toList,mk_toList,beq_eq_false_iff_ne];exact he
     have HN:Hid (x∉l.take (k+1)):=by
      show _∉_
      rw[List.take_succ_eq_append_getElem hlt,List.mem_append]
      rintro(h|h)
      ·exact HK.out h
      ·simp at h;exact he h
     generalize l[k]=y at ck hq
     clear he hcc
     go_wp2
     refine⟨⟨k+1,by omega,by go_num,HN⟩,by simp[intOf];omega⟩
   ·obtain rfl:k=l.length:=by omega
    have HBF:Hid (¬b=true):=fun h=>by
     have:=HK.out
     rw[List.take_length]at this
     exact this (HB.out.1 h)
    go_wp2
    go_ret
    exact⟨⟨-1,fun _=>rfl,fun h=>absurd h HBF.out,rfl⟩,rfl⟩
 clear hm hb HB HM
 go_enter Tryz.func97,Tryz.ntmps97
 go_wp2_with fail
 refine HI.out.mono ?_
 rintro e w' ⟨⟨z,hz1,hz2,rfl⟩,rfl⟩
 cases b with
 |true=>
  have hz3:=hz2 rfl
  clear hz1 hz2
  go_wp2
  go_ret
  exact⟨ret_b (by simp),rfl⟩
 |false=>
  have hz3:z=-1:=hz1 rfl
  subst hz3
  clear hz1 hz2
  go_wp2
  go_ret
  exact⟨rfl,rfl⟩
end Go.Proofs.YthfgpkdbclogpaaGreatDoor
