/- 15. -/
import Derived.Shelf.Strings.Repeat
import Derived.Shelf.Strings.OnBuilder
import Derived.Test.YtcaeeackccgclaaGreatDoorChecked
import Derived.Test.YtcaeeackccgclaaGreatDoorTx14
set_option maxHeartbeats 40000000
set_option maxRecDepth 100000
namespace Go.Proofs.YtcaeeackccgclaaGreatDoor
open Go.RowKit Go.Shelf
structure Wi (xs:List Lx):Prop where
 op:∀ o,opA xs o=o
 cls:∀ o,clsOk xs o
 ok:∀ r:List UInt8,(r=[]∨isNm (r.getD 0 0)=false)→LxsOk xs r
theorem Wh.wi {xs:List Lx}(h:Wh xs):Wi xs:=⟨h.op,h.cls,h.ok⟩
theorem wi_nil:Wi []:=⟨fun _=>rfl,fun _=>trivial,fun _ _=>trivial⟩
def Sg (c:UInt8):Prop:=isSg1 c=true∧c.toNat≠61∧c.toNat≠33∧c.toNat≠60∧c.toNat≠47
theorem two2_no {c:UInt8}(h:c.toNat≠61∧c.toNat≠33∧c.toNat≠60∧c.toNat≠47)(r:List UInt8):two2 (c::r)=false:=by
 obtain⟨h1,h2,h3,h4⟩:=h
 cases r with
 |nil=>show([[61,61],[33,61],[60,61],[47,47]]:List (List Nat)).contains [c.toNat]=false;simp
 |cons d r=>show([[61,61],[33,61],[60,61],[47,47]]:List (List Nat)).contains [c.toNat,d.toNat]=false;simp[h1,h2,h3,h4]
theorem sg_ok {c:UInt8}(h:Sg c)(r:List UInt8)(sp:Bool):LxOk ⟨[c],(4,[c],0),sp⟩ r:=lx_one h.1 (two2_no h.2 r) sp
theorem wh_br {c d:UInt8}(hc:Sg c∧isOpn c=true)(hd:Sg d∧isCls d=true∧isOpn d=false∧isNm d=false)(hcc:isCls c=false){xs:List Lx}(h:Wi xs):Wh (kS [c]::(xs++[kS [d]])):=by
 have o1:∀ o,opF c o=o+1:=fun o=>by unfold opF;rw[hc.2];rfl
 have o2:∀ o,opF d (o+1)=o:=fun o=>by unfold opF;rw[hd.2.2.1,hd.2.1];rfl
 refine⟨fun o=>?_,fun o=>⟨fun e=>(by rw[show isCls c=true from e]at hcc;cases hcc),cls_app _ _ _ (h.cls _) ⟨fun _=>?_,trivial⟩⟩,fun r _=>⟨sg_ok hc.1 _ false,ok_app _ _ _ (h.ok _ (.inr hd.2.2.2)) ⟨sg_ok hd.1 _ false,trivial⟩⟩,lastNo_app (kS [c]::xs) [kS [d]] rfl⟩
 ·show opA (xs++[kS [d]]) (opF c o)=o
  rw[opA_app,h.op,o1]
  exact o2 o
 ·rw[h.op]
  show 0<opF c o
  rw[o1]
  exact Nat.succ_pos _
theorem wh_sp {xs ys:List Lx}(h:Wh xs)(g:Wh ys):Wh (spL xs++ys):=
 ⟨fun o=>by rw[opA_app,spL_op,h.op,g.op],fun o=>cls_app _ _ _ (spL_cls _ _ (h.cls o)) (g.cls _),fun r hr=>ok_app _ _ _ (spL_ok _ _ h.last (h.ok _ (.inr (by show isNm 32=false;decide)))) (g.ok r hr),lastNo_app _ _ g.last⟩
theorem wh_app {xs ys:List Lx}(h:Wi xs)(g:Wh ys)(hn:isNm ((lxB ys).getD 0 0)=false)(hy:lxB ys≠[]):Wh (xs++ys):=
 ⟨fun o=>by rw[opA_app,h.op,g.op],fun o=>cls_app _ _ _ (h.cls o) (g.cls _),fun r hr=>ok_app _ _ _ (h.ok _ (.inr (by rw[hd_app hy];exact hn))) (g.ok r hr),lastNo_app _ _ g.last⟩
def cm:Lx:=(kS [44]).and
theorem sg44:Sg 44:=⟨rfl,by decide,by decide,by decide,by decide⟩
def joinC:List (List Lx)→List Lx
 |[]=>[]
 |[x]=>x
 |x::y::r=>x++cm::joinC (y::r)
theorem wi_join:∀ L:List (List Lx),(∀ x∈L,Wh x)→Wi (joinC L)
 |[],_=>wi_nil
 |[x],h=>(h x List.mem_cons_self).wi
 |x::y::r,h=>by
  have hx:=h x List.mem_cons_self
  have hr:=wi_join (y::r) fun z hz=>h z (List.mem_cons_of_mem _ hz)
  refine⟨fun o=>?_,fun o=>cls_app _ _ _ (hx.cls o) ⟨fun e=>absurd (show isCls 44=true from e) (by decide),hr.cls _⟩,fun q hq=>ok_app _ _ _ (hx.ok _ (.inr (by show isNm 44=false;decide))) ⟨?_,hr.ok q hq⟩⟩
  ·show opA (x++cm::joinC (y::r)) o=o
   rw[opA_app,hx.op]
   show opA (joinC (y::r)) (opF 44 o)=o
   rw[hr.op]
   exact opF_id (by decide)
  ·exact sg_ok sg44 _ true
def pairs:List Ex→List (Ex×Ex)
 |a::b::r=>(a,b)::pairs r
 |_=>[]
def argsL (names:List (List UInt8))(l:List Ex):List (Option (List UInt8)×Ex):=(l.take (l.length-names.length)).map (fun e=>(none,e))++names.zipWith (fun m e=>(some m,e)) (l.drop (l.length-names.length))
def lP (f:Ex→List Lx)(e:Ex):List Lx:=bif decide (12≤e.kind)then kS [40]::(f e++[kS [41]])else f e
def kO (s:List UInt8):Lx:=bif isLt (s.getD 0 0)then kW s else kS s
def lH (f:Ex→List Lx)(a:Option (List UInt8)×Ex):List Lx:=match a.1 with
 |none=>f a.2
 |some m=>kW m::kS [61]::f a.2
def lE:Nat→Ex→List Lx
 |0,_=>[]
 |n+1,e=>match e.kind with
  |1=>[kW [78,111,110,101]]
  |2=>[kW [84,114,117,101]]
  |3=>[kW [70,97,108,115,101]]
  |4=>[kI e.num]
  |5=>[kT e.text]
  |6=>[kW e.text]
  |7=>kS [91]::(joinC (e.kids.map (lE n))++[kS [93]])
  |8=>kS [123]::(joinC ((pairs e.kids).map fun p=>lE n p.1++((kS [58]).and::lE n p.2))++[kS [125]])
  |9=>match e.kids with
   |[a,b]=>kS [91]::((spL (lE n a)++((kW [102,111,114]).and::(kW e.text).and::(kW [105,110]).and::lE n b))++[kS [93]])
   |[a,b,c]=>kS [91]::((spL (lE n a)++((kW [102,111,114]).and::(kW e.text).and::(kW [105,110]).and::(spL (lE n b)++((kW [105,102]).and::lE n c))))++[kS [93]])
   |_=>[]
  |10=>match e.kids with
   |c::l=>lP (lE n) c++kS [40]::(joinC ((argsL e.names l).map (lH (lE n)))++[kS [41]])
   |_=>[]
  |11=>match e.kids with
   |[a,b]=>lP (lE n) a++kS [91]::(lE n b++[kS [93]])
   |_=>[]
  |12=>match e.kids with
   |[a]=>(kW [110,111,116]).and::lP (lE n) a
   |_=>[]
  |13=>match e.kids with
   |[a]=>kS [45]::lP (lE n) a
   |_=>[]
  |14=>match e.kids with
   |[a,b]=>spL (lP (lE n) a)++((kO e.text).and::lP (lE n) b)
   |_=>[]
  |_=>[]
def opsB:List (List UInt8):=[[111,114],[97,110,100],[61,61],[33,61],[60],[60,61],[105,110],[43],[45],[42],[47,47],[37]]
def WfE:Nat→Ex→Prop
 |0,_=>False
 |n+1,e=>match e.kind with
  |1=>e=⟨1,0,[],[],[]⟩
  |2=>e=⟨2,0,[],[],[]⟩
  |3=>e=⟨3,0,[],[],[]⟩
  |4=>e=⟨4,e.num,[],[],[]⟩∧e.num≤9007199254740991
  |5=>e=⟨5,0,e.text,[],[]⟩∧∀ c∈e.text,okB c=true
  |6=>e=⟨6,0,e.text,[],[]⟩∧NmS e.text∧isWd e.text=false
  |7=>e=⟨7,0,[],e.kids,[]⟩∧∀ k∈e.kids,WfE n k
  |8=>e=⟨8,0,[],e.kids,[]⟩∧(∀ k∈e.kids,WfE n k)∧e.kids.length%2=0
  |9=>e=⟨9,0,e.text,e.kids,[]⟩∧(∀ k∈e.kids,WfE n k)∧(e.kids.length=2∨e.kids.length=3)∧NmS e.text∧isWd e.text=false
  |10=>e=⟨10,0,[],e.kids,e.names⟩∧(∀ k∈e.kids,WfE n k)∧e.names.length+1≤e.kids.length∧(∀ t∈e.names,NmS t∧isWd t=false)∧e.names.Nodup
  |11=>e=⟨11,0,[],e.kids,[]⟩∧(∀ k∈e.kids,WfE n k)∧e.kids.length=2
  |12=>e=⟨12,0,[],e.kids,[]⟩∧(∀ k∈e.kids,WfE n k)∧e.kids.length=1
  |13=>e=⟨13,0,[],e.kids,[]⟩∧(∀ k∈e.kids,WfE n k)∧e.kids.length=1
  |14=>e=⟨14,0,e.text,e.kids,[]⟩∧(∀ k∈e.kids,WfE n k)∧e.kids.length=2∧e.text∈opsB
  |_=>False
theorem sg_lit:Sg 91∧Sg 93∧Sg 123∧Sg 125∧Sg 40∧Sg 41∧Sg 58∧Sg 45:=by
 refine⟨?_,?_,?_,?_,?_,?_,?_,?_⟩<;>exact⟨rfl,by decide,by decide,by decide,by decide⟩
theorem wh_sq {xs:List Lx}(h:Wi xs):Wh (kS [91]::(xs++[kS [93]])):=wh_br ⟨sg_lit.1,rfl⟩ ⟨sg_lit.2.1,rfl,rfl,rfl⟩ rfl h
theorem wh_cu {xs:List Lx}(h:Wi xs):Wh (kS [123]::(xs++[kS [125]])):=wh_br ⟨sg_lit.2.2.1,rfl⟩ ⟨sg_lit.2.2.2.1,rfl,rfl,rfl⟩ rfl h
theorem wh_ro {xs:List Lx}(h:Wi xs):Wh (kS [40]::(xs++[kS [41]])):=wh_br ⟨sg_lit.2.2.2.2.1,rfl⟩ ⟨sg_lit.2.2.2.2.2.1,rfl,rfl,rfl⟩ rfl h
theorem wh_lP {f:Ex→List Lx}{e:Ex}(h:Wh (f e)):Wh (lP f e):=by
 unfold lP
 cases decide (12≤e.kind)with
 |true=>exact wh_ro h.wi
 |false=>exact h
theorem wh_word {t:List UInt8}(ht:NmS t){xs:List Lx}(h:Wh xs):Wh ((kW t).and::xs):=wh_sp (xs:=[kW t]) (wh_name ht) h
theorem nm_lit:NmS [102,111,114]∧NmS [105,110]∧NmS [105,102]∧NmS [110,111,116]∧NmS [78,111,110,101]∧NmS [84,114,117,101]∧NmS [70,97,108,115,101]:=by
 refine⟨?_,?_,?_,?_,?_,?_,?_⟩<;>exact⟨by simp,by decide,by decide⟩
theorem wh_sign {s:List UInt8}(h:s∈opsB):Wh [(kO s)]∨(s=[60]∧True):=by
 unfold opsB at h
 simp only[List.mem_cons,List.not_mem_nil,or_false]at h
 rcases h with rfl|rfl|rfl|rfl|rfl|rfl|rfl|rfl|rfl|rfl|rfl|rfl
 ·exact .inl (wh_name ⟨by simp,by decide,by decide⟩)
 ·exact .inl (wh_name ⟨by simp,by decide,by decide⟩)
 ·exact .inl ⟨fun o=>opF_id (c:=61) (by decide),fun o=>⟨fun e=>absurd (show isCls 61=true from e) (by decide),trivial⟩,fun r _=>⟨lx_two (by decide) false,trivial⟩,rfl⟩
 ·exact .inl ⟨fun o=>opF_id (c:=33) (by decide),fun o=>⟨fun e=>absurd (show isCls 33=true from e) (by decide),trivial⟩,fun r _=>⟨lx_two (by decide) false,trivial⟩,rfl⟩
 ·exact .inr ⟨rfl,trivial⟩
 ·exact .inl ⟨fun o=>opF_id (c:=60) (by decide),fun o=>⟨fun e=>absurd (show isCls 60=true from e) (by decide),trivial⟩,fun r _=>⟨lx_two (by decide) false,trivial⟩,rfl⟩
 ·exact .inl (wh_name ⟨by simp,by decide,by decide⟩)
 ·exact .inl ⟨fun o=>opF_id (c:=43) (by decide),fun o=>⟨fun e=>absurd (show isCls 43=true from e) (by decide),trivial⟩,fun r _=>⟨sg_ok ⟨rfl,by decide,by decide,by decide,by decide⟩ _ false,trivial⟩,rfl⟩
 ·exact .inl ⟨fun o=>opF_id (c:=45) (by decide),fun o=>⟨fun e=>absurd (show isCls 45=true from e) (by decide),trivial⟩,fun r _=>⟨sg_ok ⟨rfl,by decide,by decide,by decide,by decide⟩ _ false,trivial⟩,rfl⟩
 ·exact .inl ⟨fun o=>opF_id (c:=42) (by decide),fun o=>⟨fun e=>absurd (show isCls 42=true from e) (by decide),trivial⟩,fun r _=>⟨sg_ok ⟨rfl,by decide,by decide,by decide,by decide⟩ _ false,trivial⟩,rfl⟩
 ·exact .inl ⟨fun o=>opF_id (c:=47) (by decide),fun o=>⟨fun e=>absurd (show isCls 47=true from e) (by decide),trivial⟩,fun r _=>⟨lx_two (by decide) false,trivial⟩,rfl⟩
 ·exact .inl ⟨fun o=>opF_id (c:=37) (by decide),fun o=>⟨fun e=>absurd (show isCls 37=true from e) (by decide),trivial⟩,fun r _=>⟨sg_ok ⟨rfl,by decide,by decide,by decide,by decide⟩ _ false,trivial⟩,rfl⟩
theorem wh_op {s:List UInt8}(h:s∈opsB){xs:List Lx}(g:Wh xs):Wh ((kO s).and::xs):=by
 rcases wh_sign h with h1|⟨rfl,_⟩
 ·exact wh_sp (xs:=[kO s]) h1 g
 ·exact⟨fun o=>by show opA xs (opF 60 o)=o;rw[g.op];exact opF_id (by decide),fun o=>⟨fun e=>absurd (show isCls 60=true from e) (by decide),g.cls _⟩,fun r hr=>⟨lx_one rfl rfl true,g.ok r hr⟩,lastNo_app [(kO [60]).and] xs g.last⟩
def TabW (w:World):Prop:=Lib.TabIs Tryz.prog w "internal/strconv.uint64pow10" .u64 Lib.pow10Tab
theorem TabW.of_block {w w':World}(h:TabW w)(hb:w'.heap[1]? =w.heap[1]?):TabW w':=by
 have hg:Tryz.prog.globalNamed "internal/strconv.uint64pow10" =some 1:=by kernel_rfl
 unfold TabW Lib.TabIs World.var? at *
 rw[hg]at h ⊢
 simp only[Option.bind_some]at h ⊢
 rw[hb]
 exact h
theorem TabW.lt {w:World}(h:TabW w):1<w.heap.size:=by
 have hg:Tryz.prog.globalNamed "internal/strconv.uint64pow10" =some 1:=by kernel_rfl
 unfold TabW Lib.TabIs World.var? at h
 rw[hg]at h
 simp only[Option.bind_some]at h
 rcases Nat.lt_or_ge 1 w.heap.size with h1|h1
 ·exact h1
 ·rw[Array.getElem?_eq_none h1]at h;cases h
theorem TabW.kp {B b:Nat}{w w':World}(h:TabW w)(hk:Kp B b w w')(hB:1<B):TabW w':=h.of_block (hk.1.block _ hB)
theorem five_of {w:World}{R:Nat}{v0 v1 v2 v3 v4:Value}{t:TypeId}(h:w.heap[R]? =some (.cells #[v0,v1,v2,v3,v4] t (0,0))):w.cell? ⟨R,0,none⟩=some v0∧w.cell? ⟨R,1,none⟩=some v1∧w.cell? ⟨R,2,none⟩=some v2∧w.cell? ⟨R,3,none⟩=some v3∧w.cell? ⟨R,4,none⟩=some v4:=by
 refine⟨?_,?_,?_,?_,?_⟩<;>(rw[Lib.cell_of_heap h];rfl)
theorem ExA.al {w:World}{S:Nat→Prop}{x:Ex}{c:List Value}(h:ExA w S x c)(o:Obj):ExA (w.alloc o) S x c:=h.keep (fun g _ hg=>heap_al w o g hg) (fun _ hg _=>hg)
theorem Kp.un {B b:Nat}{w w':World}(h:Kp B b w.drew w'):Kp B b w w':=⟨⟨h.1.os,h.1.tape,h.1.output,h.1.size,h.1.block⟩,h.2⟩
theorem WpO.un {B b:Nat}{n:Int}{l:List UInt8}{w w':World}{e:Ending}(h:WpO B b n l w.drew e w'):WpO B b n l w e w':=⟨h.1,h.2.1,h.2.2.1.un,h.2.2.2⟩
theorem WpO.pre {B b:Nat}{n:Int}{l:List UInt8}{w w1 w':World}{e:Ending}(hk:Kp B b w w1)(h:WpO B b n l w1 e w'):WpO B b n l w e w':=⟨h.1,h.2.1,hk.trans h.2.2.1,h.2.2.2⟩
def fv (x:Ex)(a1:Option Addr)(c1:Nat)(a2:Option Addr)(c2:Nat):List Value:=[.int .i64 x.kind,.int .i64 x.num,.string (mkB x.text),.slice a1 x.kids.length c1,.slice a2 x.names.length c2]
def fa (x:Ex)(a1:Option Addr)(c1:Nat)(a2:Option Addr)(c2:Nat):Array Value:=#[.int .i64 x.kind,.int .i64 x.num,.string (mkB x.text),.slice a1 x.kids.length c1,.slice a2 x.names.length c2]
structure Wz (B b:Nat)(z:Int)(l:List UInt8)(S:Nat→Prop)(x:Ex)(a1:Option Addr)(c1:Nat)(a2:Option Addr)(c2:Nat)(w:World):Prop where
 wr:WrIs B b z (Lib.byteCells l) w
 size:B≤w.heap.size
 pow:1<B
 tab:TabW w
 ex:ExA w S x (fv x a1 c1 a2 c2)
 own:∀ g,S g→g≠b
section
variable {B b:Nat} {z:Int} {l l':List UInt8} {S:Nat→Prop} {x:Ex} {a1 a2:Option Addr} {c1 c2:Nat} {w w':World}
theorem Wz.al (h:Wz B b z l S x a1 c1 a2 c2 w)(o:Obj):Wz B b z l S x a1 c1 a2 c2 (w.alloc o):=⟨h.wr.al o,by rw[World.size_alloc];exact Nat.le_succ_of_le h.size,h.pow,h.tab.kp (Kp.al b h.size o) h.pow,h.ex.al o,h.own⟩
theorem Wz.kp (h:Wz B b z l S x a1 c1 a2 c2 w)(hk:Kp B b w w')(hw:WrIs B b z (Lib.byteCells l') w'):Wz B b z l' S x a1 c1 a2 c2 w':=⟨hw,Nat.le_trans h.size hk.1.size,h.pow,h.tab.kp hk h.pow,h.ex.kpw hk h.own,h.own⟩
theorem Wz.drew (h:Wz B b z l S x a1 c1 a2 c2 w):Wz B b z l S x a1 c1 a2 c2 w.drew:=⟨h.wr,h.size,h.pow,h.tab.of_block rfl,h.ex.keep (fun _ _ _=>rfl) (fun _ hg _=>hg),h.own⟩
theorem Wz.box (h:Wz B b z l S x a1 c1 a2 c2 w):Kp B b w (w.alloc (.cells (fa x a1 c1 a2 c2) 38))∧(w.alloc (.cells (fa x a1 c1 a2 c2) 38)).heap[w.heap.size]? =some (.cells (fa x a1 c1 a2 c2) 38 (0,0))∧Wz B b z l S x a1 c1 a2 c2 (w.alloc (.cells (fa x a1 c1 a2 c2) 38)):=⟨Kp.al b h.size _,heap_alloc_new w _,h.al _⟩
end
def ExW (n:Nat):Prop:=∀ (B b:Nat) (z:Int) (l:List UInt8) (S:Nat→Prop) (x:Ex) (a1:Option Addr) (c1:Nat) (a2:Option Addr) (c2:Nat) (w:World),Wz B b z l S x a1 c1 a2 c2 w→WfE n x→l.length+(lxB (lE n x)).length≤1000000000→Calls Tryz.prog 39 #[pt b,.agg (fa x a1 c1 a2 c2)] w (WpO B b z (l++lxB (lE n x)) w)
theorem before_w {n B b:Nat}{z:Int}{l:List UInt8}{S:Nat→Prop}{x:Ex}{a1 a2:Option Addr}{c1 c2:Nat}{w:World}(hE:ExW n)(h:Wz B b z l S x a1 c1 a2 c2 w)(hx:WfE n x)(ah:List UInt8)(hlen:l.length+ah.length+(lxB (lE n x)).length≤1000000000):
  Calls Tryz.prog 27 #[pt b,.agg (fa x a1 c1 a2 c2),.string ⟨ah.toArray⟩] w (WpO B b z (l++ah++lxB (lE n x)) w):=by
 have hbl:=h.wr.lt
 have HQ:Hid _:=h.box
 have HS:=ws_any HQ.out.2.2.wr HQ.out.2.2.size ah (by omega)
 have HE:Hid (∀ w1,Kp B b _ w1→WrIs B b z (Lib.byteCells (l++ah)) w1→Calls Tryz.prog 39 #[pt b,.agg (fa x a1 c1 a2 c2)] w1 (WpO B b z (l++ah++lxB (lE n x)) w1)):=fun w1 hk h1=>hE B b z _ S x _ _ _ _ w1 (HQ.out.2.2.kp hk h1) hx (by rw[List.length_append];exact hlen)
 clear h hx hE
 unfold fa at *
 go_enter Tryz.func27,Tryz.ntmps27
 go_wp2_with (go_at_call 23;refine HS.mono ?_;rintro e w1 ⟨rfl,h1,hk1,hB1⟩;obtain⟨u0,u1,u2,u3,u4⟩:=five_of (hk1.other HQ.out.2.1 (by omega) (by decide));have HE1:=HE.out w1 hk1 h1;have HK:=HQ.out.1.trans hk1;clear h1 hk1)
 refine HE1.mono ?_
 rintro e w2 h2
 obtain⟨rfl,g2⟩:=WpO.pre HK h2
 go_wp2
 go_end0
 exact⟨rfl,g2⟩
theorem part_w {n B b:Nat}{z:Int}{l:List UInt8}{S:Nat→Prop}{x:Ex}{a1 a2:Option Addr}{c1 c2:Nat}{w:World}(hE:ExW n)(h:Wz B b z l S x a1 c1 a2 c2 w)(hx:WfE n x)(hlen:l.length+(lxB (lP (lE n) x)).length≤1000000000):
  Calls Tryz.prog 86 #[pt b,.agg (fa x a1 c1 a2 c2)] w (WpO B b z (l++lxB (lP (lE n) x)) w):=by
 have hbl:=h.wr.lt
 have HQ:Hid _:=h.box
 obtain⟨u0,u1,u2,u3,u4⟩:=five_of HQ.out.2.1
 by_cases hk:12≤x.kind
 ·have hP:lP (lE n) x=kS [40]::(lE n x++[kS [41]]):=by unfold lP;rw[decide_eq_true hk];rfl
  have hb:lxB (lP (lE n) x)=40::(lxB (lE n x)++[41]):=by
   rw[hP]
   show 40::lxB (lE n x++[kS [41]])=_
   rw[lxB_app]
   rfl
  rw[hb]at hlen ⊢
  simp only[List.length_cons,List.length_append,List.length_nil]at hlen
  have HE:=before_w hE HQ.out.2.2 hx [40] (by show l.length+1+_≤_;omega)
  have HB:Hid (∀ w1,WrIs B b z (Lib.byteCells (l++[40]++lxB (lE n x))) w1→B≤w1.heap.size→Calls Tryz.prog 29 #[pt b,.int .u8 41] w1 fun e w'=>e= .returned .nilIface∧WrIs B b z (Lib.byteCells (l++(40::(lxB (lE n x)++[41])))) w'∧Kp B b w1 w'∧B≤w'.heap.size):=fun w1 h1 h2=>(wb_any h1 h2 41 (by simp only[List.length_append];show l.length+1+_+1≤_;omega)).mono fun e w' ⟨q1,q2,q3⟩=>⟨q1,by simpa using q2,q3⟩
  have hk15:x.kind=12∨x.kind=13∨x.kind=14:=by
   by_cases h15:15≤x.kind
   ·match n,hx with
    |m+1,hx=>
     obtain⟨kd,a,bb,cc,dd⟩:=x
     obtain⟨k,rfl⟩:∃ k,kd=k+15:=⟨kd-15,by have:15≤kd:=h15;omega⟩
     exact hx.elim
   ·omega
  have HK:Hid (Kp B b w _):=HQ.out.1
  clear h hx hE HQ hP hb hk
  unfold fa at *
  have q:((((x.kind:Nat):Int)==(12:Int))=true∨((((x.kind:Nat):Int)==(12:Int))=false∧(((x.kind:Nat):Int)==(13:Int))=true))∨((((x.kind:Nat):Int)==(12:Int))=false∧(((x.kind:Nat):Int)==(13:Int))=false∧(((x.kind:Nat):Int)==(14:Int))=true):=by
   rcases hk15 with hk|hk|hk<;>(rw[hk];decide)
  clear hk15
  rcases q with(q1|⟨q1,q2⟩)|⟨q1,q2,q3⟩
  all_goals
   go_enter Tryz.func86,Tryz.ntmps86
   go_wp2_with fail
   refine HE.mono ?_
   rintro e w2 ⟨rfl,h2,hk2,hB2⟩
   have HB2:=HB.out w2 h2 hB2
   go_wp2_with (go_at_call 29;refine HB2.mono ?_;rintro e w3 ⟨rfl,h3,hk3,hB3⟩)
   go_end0
   exact⟨rfl,h3,(HK.out.trans hk2).trans hk3,hB3⟩
 ·have hP:lP (lE n) x=lE n x:=by unfold lP;rw[decide_eq_false hk];rfl
  rw[hP]at hlen ⊢
  have HE:=hE B b z l S x _ _ _ _ _ HQ.out.2.2 hx hlen
  have q1:(((x.kind:Nat):Int)==(12:Int))=false:=by rw[beq_eq_false_iff_ne];omega
  have q2:(((x.kind:Nat):Int)==(13:Int))=false:=by rw[beq_eq_false_iff_ne];omega
  have q3:(((x.kind:Nat):Int)==(14:Int))=false:=by rw[beq_eq_false_iff_ne];omega
  have HK:Hid (Kp B b w _):=HQ.out.1
  clear h hx hE HQ hP
  unfold fa at *
  go_enter Tryz.func86,Tryz.ntmps86
  go_wp2_with fail
  refine HE.mono ?_
  rintro e w2 h2
  obtain⟨rfl,g2⟩:=WpO.pre HK.out h2
  go_wp2
  go_end0
  exact⟨rfl,g2⟩
def jT:Bool→List (List UInt8)→List UInt8
 |_,[]=>[]
 |first,x::r=>(bif first then x else 44::32::x)++jT false r
theorem jT_join:∀ L:List (List Lx),lxB (joinC L)=jT true (L.map lxB)
 |[]=>rfl
 |[x]=>(List.append_nil _).symm
 |x::y::r=>by
  show lxB (x++cm::joinC (y::r))=_
  rw[lxB_app]
  show lxB x++(44::32::lxB (joinC (y::r)))=_
  rw[jT_join (y::r)]
  show _=lxB x++((44::32::lxB y)++jT false (r.map lxB))
  rfl
theorem listed_w {B b:Nat}{z:Int}{outs:List (List UInt8)}{l:List UInt8}{w:World}(F:Nat)(cap:Array Value)(hent:∀ args w,(callFunc F args).run Tryz.prog w= .ok (.enter F args) w)(h:WrIs B b z (Lib.byteCells l) w)(hB:B≤w.heap.size)(op cl:List UInt8)(hn:outs.length≤1000000000)(hlen:l.length+op.length+(jT true outs).length+cl.length≤1000000000)
  (hc:∀ k (hk:k<outs.length) W l',Kp B b w W→WrIs B b z (Lib.byteCells l') W→B≤W.heap.size→l'.length+outs[k].length≤1000000000→Calls Tryz.prog F (#[.int .i64 k]++cap) W (WpO B b z (l'++outs[k]) W)):
  Calls Tryz.prog 58 #[pt b,.string ⟨op.toArray⟩,.int .i64 outs.length,.string ⟨cl.toArray⟩,.func (.func F) #[] cap] w (WpO B b z (l++op++jT true outs++cl) w):=by
 have HS:=ws_any h hB op (by omega)
 have HC:Hid _:=hc
 have hni:(outs.length:Int)≤1000000000:=by omega
 clear h hc
 go_enter Tryz.func58,Tryz.ntmps58
 go_wp2_with (go_at_call 23;refine HS.mono ?_;rintro e w1 ⟨rfl,h1,hk1,hB1⟩;have HI:Hid (∃ l',WrIs B b z (Lib.byteCells l') w1∧Kp B b w w1∧B≤w1.heap.size∧l'++jT true outs=l++op++jT true outs):=⟨_,h1,hk1,hB1,rfl⟩;clear h1 hk1 hB1)
 go_loopw [17] (fun u wr=>∃ k:Nat,k≤outs.length∧u= .int .i64 (k:Int)∧Hid (∃ l',WrIs B b z (Lib.byteCells l') wr∧Kp B b w wr∧B≤wr.heap.size∧l'++jT (decide (k=0)) (outs.drop k)=l++op++jT true outs)) (fun u _=>outs.length-(intOf u).toNat)
 case atStart=>exact⟨0,Nat.zero_le _,rfl,HI⟩
 case round=>
  obtain⟨k,hk,rfl,hrel⟩:=hrel
  obtain⟨l',hw,hkp,hBw,hll⟩:=hrel.out
  have hll2:=congrArg List.length hll
  simp only[List.length_append]at hll2
  clear hrel HI HS
  by_cases hlt:k<outs.length
  ·have hki:(k:Int)<(outs.length:Int):=by omega
   rw[List.drop_eq_getElem_cons hlt]at hll hll2
   by_cases hk0:k=0
   ·subst hk0
    have hll:l'++(outs[0]++jT false (outs.drop 1))=_:=hll
    have hll2:l'.length+(outs[0]++jT false (outs.drop 1)).length=_:=hll2
    rw[List.length_append]at hll2
    have HE:=HC.out 0 hlt wr l' hkp hw hBw (by omega)
    go_wp2_with fail
    refine HE.mono ?_
    rintro e w2 ⟨rfl,h2,hk2,hB2⟩
    have HI:Hid (∃ l'',WrIs B b z (Lib.byteCells l'') w2∧Kp B b w w2∧B≤w2.heap.size∧l''++jT false (outs.drop 1)=l++op++jT true outs):=⟨_,h2,hkp.trans hk2,hB2,(List.append_assoc _ _ _).trans hll⟩
    clear h2 hk2 hB2 HE hw hkp hBw
    go_wp2
    exact⟨⟨1,by omega,by go_num,HI⟩,by simp[intOf];omega⟩
   ·have hkp0:(0:Int)<(k:Int):=by omega
    rw[decide_eq_false hk0]at hll hll2
    have hll:l'++((44::32::outs[k])++jT false (outs.drop (k+1)))=_:=hll
    have hll2:l'.length+((44::32::outs[k])++jT false (outs.drop (k+1))).length=_:=hll2
    rw[List.length_append,List.length_cons,List.length_cons]at hll2
    have HS:=ws_any hw hBw [44,32] (by show l'.length+2≤_;omega)
    go_wp2_with fail
    refine HS.mono ?_
    rintro e w2 ⟨rfl,h2,hk2,hB2⟩
    have HE:=HC.out k hlt w2 (l'++[44,32]) (hkp.trans hk2) h2 hB2 (by rw[List.length_append];show l'.length+2+_≤_;omega)
    go_wp2_with fail
    refine HE.mono ?_
    rintro e w3 ⟨rfl,h3,hk3,hB3⟩
    have HI:Hid (∃ l'',WrIs B b z (Lib.byteCells l'') w3∧Kp B b w w3∧B≤w3.heap.size∧l''++jT (decide (k+1=0)) (outs.drop (k+1))=l++op++jT true outs):=⟨_,h3,(hkp.trans hk2).trans hk3,hB3,by rw[←hll];simp⟩
    clear h2 hk2 hB2 HE HS hw hkp hBw h3 hk3 hB3
    go_wp2
    exact⟨⟨k+1,by omega,by go_num,HI⟩,by simp[intOf];omega⟩
  ·obtain rfl:k=outs.length:=by omega
   rw[List.drop_length]at hll hll2
   have hll:l'++[]=_:=hll
   have hll2:l'.length+0=_:=hll2
   rw[List.append_nil]at hll
   subst hll
   have HS:=ws_any hw hBw cl (by omega)
   go_wp2_with (go_at_call 23;refine HS.mono ?_;rintro e w2 ⟨rfl,h2,hk2,hB2⟩)
   go_end0
   exact⟨rfl,h2,hkp.trans hk2,hB2⟩
theorem flat5:∀ (vs:List (List Value)) (_:∀ c∈vs,c.length=5) (k:Nat) (c:List Value) (_:vs[k]? =some c) (i:Nat) (_:i<5),vs.flatten[k*5+i]? =c[i]?
 |v::vs,h,0,c,hk,i,hi=>by
  cases hk
  rw[Nat.zero_mul,Nat.zero_add,List.flatten_cons,List.getElem?_append_left (by rw[h v (by simp)];exact hi)]
 |v::vs,h,k+1,c,hk,i,hi=>by
  have hv:=h v (by simp)
  rw[List.flatten_cons,List.getElem?_append_right (by rw[hv];omega),hv,show(k+1)*5+i-5=k*5+i from by omega]
  exact flat5 vs (fun c hc=>h c (by simp[hc])) k c (by simpa using hk) i hi
theorem Fa.mem {α β:Type}{R:α→β→Prop}{P:β→Prop}(h:∀ a b,R a b→P b):∀ {l:List α} {m:List β},Fa R l m→∀ b∈m,P b
 |[],[],_,_,hb=>by cases hb
 |a::l,b::m,f,c,hc=>by
  rcases List.mem_cons.1 hc with rfl|hc
  ·exact h _ _ f.1
  ·exact Fa.mem h f.2 c hc
theorem row_form {w:World}{B:Nat}{e:TypeId}{sz:Nat}{v:Value}{n:Nat}{xs:List Value}(h:w.ownsRow B e sz v n xs)(hn:0<n):∃ g cap,v= .slice (some ⟨g,0,none⟩) n cap∧n≤cap∧∀ j,j<n*sz→w.cell? ⟨g,j,none⟩=xs[j]? :=by
 rcases h.2 with⟨_,e0⟩|⟨g,cap,cur,hv,h2,h3,h4,h5,h6,h7⟩
 ·omega
 ·exact⟨g,cap,hv,h4,fun j hj=>by rw[Lib.cell_of_heap h3,←h7,List.getElem?_take_of_lt hj];simp⟩
def Five (w:World)(g o:Nat)(y:Ex)(b1:Option Addr)(d1:Nat)(b2:Option Addr)(d2:Nat):Prop:=w.cell? ⟨g,o,none⟩=some (.int .i64 y.kind)∧w.cell? ⟨g,o+1,none⟩=some (.int .i64 y.num)∧w.cell? ⟨g,o+2,none⟩=some (.string (mkB y.text))∧w.cell? ⟨g,o+3,none⟩=some (.slice b1 y.kids.length d1)∧w.cell? ⟨g,o+4,none⟩=some (.slice b2 y.names.length d2)
theorem ExA.kidF {w:World}{S:Nat→Prop}{x:Ex}{a1 a2:Option Addr}{c1 c2:Nat}(h:ExA w S x (fv x a1 c1 a2 c2))(k:Nat)(hk:k<x.kids.length):∃ g,a1=some ⟨g,0,none⟩∧x.kids.length≤c1∧∃ b1 d1 b2 d2,ExA w S x.kids[k] (fv x.kids[k] b1 d1 b2 d2)∧Five w g (k*5) x.kids[k] b1 d1 b2 d2:=by
 obtain⟨kv,nv,vs,e,h1,h2,h3,h4,h5⟩:=h.open
 injection e with _ e
 injection e with _ e
 injection e with _ e
 injection e with e1 e
 subst e1
 obtain⟨g,cap,hv,hcp,hc⟩:=row_form h1 (by omega)
 cases hv
 have hvl:=h5.len
 have hy:ExA w S x.kids[k] (vs[k]'(by omega)):=Fa.get h5 k hk (by omega)
 obtain⟨b1,d1,b2,d2,hf⟩:=hy.form
 have hcell:∀ i,i<5→w.cell? ⟨g,k*5+i,none⟩=(fv x.kids[k] b1 d1 b2 d2)[i]? :=fun i hi=>by
  rw[hc (k*5+i) (by have:k+1≤x.kids.length:=hk;omega),flat5 vs (Fa.mem (fun _ _ f=>f.len) h5) k _ (List.getElem?_eq_getElem (by omega)) i hi,hf]
  rfl
 rw[hf]at hy
 exact⟨g,rfl,hcp,b1,d1,b2,d2,hy,hcell 0 (by decide),hcell 1 (by decide),hcell 2 (by decide),hcell 3 (by decide),hcell 4 (by decide)⟩
theorem ExA.nameF {w:World}{S:Nat→Prop}{x:Ex}{a1 a2:Option Addr}{c1 c2:Nat}(h:ExA w S x (fv x a1 c1 a2 c2))(k:Nat)(hk:k<x.names.length):∃ g,a2=some ⟨g,0,none⟩∧w.cell? ⟨g,k,none⟩=some (.string (mkB x.names[k])):=by
 obtain⟨kv,nv,vs,e,h1,h2,h3,h4,h5⟩:=h.open
 injection e with _ e
 injection e with _ e
 injection e with _ e
 injection e with _ e
 injection e with e1 e
 subst e1
 obtain⟨g,cap,hv,hcp,hc⟩:=row_form h2 (by omega)
 cases hv
 refine⟨g,rfl,?_⟩
 rw[hc k (by omega),List.getElem?_map,List.getElem?_eq_getElem hk]
 rfl
theorem box_of {w:World}{R:Nat}{v:Value}{t:TypeId}(h:w.heap[R]? =some (.cells #[v] t (0,0))):w.cell? ⟨R,0,none⟩=some v:=by rw[Lib.cell_of_heap h];rfl
def mdW (b:Nat)(k:Array Value)(w:World):World:=(w.alloc (.cells #[pt b] 54)).alloc (.cells k 38)
theorem Wz.two {B b:Nat}{z:Int}{l:List UInt8}{S:Nat→Prop}{x:Ex}{a1 a2:Option Addr}{c1 c2:Nat}{w:World}(h:Wz B b z l S x a1 c1 a2 c2 w):Kp B b w (mdW b (fa x a1 c1 a2 c2) w)∧Wz B b z l S x a1 c1 a2 c2 (mdW b (fa x a1 c1 a2 c2) w)∧∀ V,Kp B b (mdW b (fa x a1 c1 a2 c2) w) V→V.cell? ⟨w.heap.size,0,none⟩=some (pt b)∧Five V (w.heap.size+1) 0 x a1 c1 a2 c2:=by
 have s0:(w.alloc (.cells #[pt b] 54)).heap.size=w.heap.size+1:=World.size_alloc _ _
 have k1:Kp B b w (w.alloc (.cells #[pt b] 54)):=Kp.al b h.size _
 have hb:=h.wr.lt
 have e0:(mdW b (fa x a1 c1 a2 c2) w).heap[w.heap.size]? =some (.cells #[pt b] 54 (0,0)):=(heap_al _ _ _ (by omega)).trans (heap_alloc_new w _)
 have e1:=heap_alloc_new (w.alloc (.cells #[pt b] 54)) (.cells (fa x a1 c1 a2 c2) 38)
 rw[s0]at e1
 exact⟨k1.trans (Kp.al b (by have:=h.size;omega) _),(h.al _).al _,fun V hV=>⟨box_of (hV.other e0 (by omega) (by decide)),five_of (hV.other e1 (by omega) (by decide))⟩⟩
def laysRp_ren:Go.Shelf.Ren:=⟨fun|105=>24|212=>35|99=>36|165=>37|166=>23|170=>38|169=>12|263=>51|264=>52|206=>53|240=>34|241=>54|276=>50|277=>81|n=>n,fun|9=>9|3=>3|4=>4|20=>20|0=>0|46=>75|109=>76|5=>5|72=>43|76=>64|51=>88|146=>89|53=>91|148=>92|70=>41|37=>34|75=>63|127=>56|164=>86|80=>47|n=>n,fun|n=>n⟩
theorem laysRp:Go.Proofs.Lays.n105 Tryz.prog laysRp_ren:={
 mixed:=by kernel_rfl
 f99:=Tryz.func36.trans (congrArg some (by kernel_rfl))
 f105:=Tryz.func24.trans (congrArg some (by kernel_rfl))
 f165:=Tryz.func37.trans (congrArg some (by kernel_rfl))
 f166:=Tryz.func23.trans (congrArg some (by kernel_rfl))
 f169:=Tryz.func12.trans (congrArg some (by kernel_rfl))
 f170:=Tryz.func38.trans (congrArg some (by kernel_rfl))
 f206:=Tryz.func53.trans (congrArg some (by kernel_rfl))
 f212:=Tryz.func35.trans (congrArg some (by kernel_rfl))
 f240:=Tryz.func34.trans (congrArg some (by kernel_rfl))
 f241:=Tryz.func54.trans (congrArg some (by kernel_rfl))
 f263:=Tryz.func51.trans (congrArg some (by kernel_rfl))
 f264:=Tryz.func52.trans (congrArg some (by kernel_rfl))
 f276:=Tryz.func50.trans (congrArg some (by kernel_rfl))
 f277:=Tryz.func81.trans (congrArg some (by kernel_rfl))
 t0:=Tryz.underlying0
 a0:=Tryz.isAgg0
 z0:=Tryz.sizeOf0
 v0:=Tryz.zeroValue0
 t3:=Tryz.underlying3
 a3:=Tryz.isAgg3
 z3:=Tryz.sizeOf3
 v3:=Tryz.zeroValue3
 t4:=Tryz.underlying4
 a4:=Tryz.isAgg4
 z4:=Tryz.sizeOf4
 v4:=Tryz.zeroValue4
 t5:=Tryz.underlying5
 a5:=Tryz.isAgg5
 z5:=Tryz.sizeOf5
 v5:=Tryz.zeroValue5
 t9:=Tryz.underlying9
 a9:=Tryz.isAgg9
 z9:=Tryz.sizeOf9
 v9:=Tryz.zeroValue9
 t20:=Tryz.underlying20
 a20:=Tryz.isAgg20
 z20:=Tryz.sizeOf20
 v20:=Tryz.zeroValue20
 t37:=Tryz.underlying34
 a37:=Tryz.isAgg34
 z37:=Tryz.sizeOf34
 v37:=Tryz.zeroValue34
 t46:=Tryz.underlying75
 a46:=Tryz.isAgg75
 z46:=Tryz.sizeOf75
 v46:=Tryz.zeroValue75
 t51:=Tryz.underlying88
 a51:=Tryz.isAgg88
 z51:=Tryz.sizeOf88
 v51:=Tryz.zeroValue88
 t53:=Tryz.underlying91
 a53:=Tryz.isAgg91
 z53:=Tryz.sizeOf91
 v53:=Tryz.zeroValue91
 t70:=Tryz.underlying41
 a70:=Tryz.isAgg41
 z70:=Tryz.sizeOf41
 v70:=Tryz.zeroValue41
 t72:=Tryz.underlying43
 a72:=Tryz.isAgg43
 z72:=Tryz.sizeOf43
 v72:=Tryz.zeroValue43
 t75:=Tryz.underlying63
 a75:=Tryz.isAgg63
 z75:=Tryz.sizeOf63
 v75:=Tryz.zeroValue63
 t76:=Tryz.underlying64
 a76:=Tryz.isAgg64
 z76:=Tryz.sizeOf64
 v76:=Tryz.zeroValue64
 t109:=Tryz.underlying76
 a109:=Tryz.isAgg76
 z109:=Tryz.sizeOf76
 v109:=Tryz.zeroValue76
 t127:=Tryz.underlying56
 a127:=Tryz.isAgg56
 z127:=Tryz.sizeOf56
 v127:=Tryz.zeroValue56
 t146:=Tryz.underlying89
 a146:=Tryz.isAgg89
 z146:=Tryz.sizeOf89
 v146:=Tryz.zeroValue89
 t148:=Tryz.underlying92
 a148:=Tryz.isAgg92
 z148:=Tryz.sizeOf92
 v148:=Tryz.zeroValue92
 t164:=Tryz.underlying86
 a164:=Tryz.isAgg86
 z164:=Tryz.sizeOf86
 v164:=Tryz.zeroValue86}
def laysJn_ren:Go.Shelf.Ren:=⟨fun|156=>25|165=>37|166=>23|169=>12|240=>34|241=>54|276=>50|277=>81|n=>n,fun|31=>35|9=>9|3=>3|4=>4|0=>0|20=>20|72=>43|76=>64|70=>41|37=>34|75=>63|127=>56|164=>86|5=>5|80=>47|n=>n,fun|n=>n⟩
theorem laysJn:Go.Proofs.Lays.n156 Tryz.prog laysJn_ren:={
 mixed:=by kernel_rfl
 f156:=Tryz.func25.trans (congrArg some (by kernel_rfl))
 f165:=Tryz.func37.trans (congrArg some (by kernel_rfl))
 f166:=Tryz.func23.trans (congrArg some (by kernel_rfl))
 f169:=Tryz.func12.trans (congrArg some (by kernel_rfl))
 f240:=Tryz.func34.trans (congrArg some (by kernel_rfl))
 f241:=Tryz.func54.trans (congrArg some (by kernel_rfl))
 f276:=Tryz.func50.trans (congrArg some (by kernel_rfl))
 f277:=Tryz.func81.trans (congrArg some (by kernel_rfl))
 t0:=Tryz.underlying0
 a0:=Tryz.isAgg0
 z0:=Tryz.sizeOf0
 v0:=Tryz.zeroValue0
 t3:=Tryz.underlying3
 a3:=Tryz.isAgg3
 z3:=Tryz.sizeOf3
 v3:=Tryz.zeroValue3
 t4:=Tryz.underlying4
 a4:=Tryz.isAgg4
 z4:=Tryz.sizeOf4
 v4:=Tryz.zeroValue4
 t9:=Tryz.underlying9
 a9:=Tryz.isAgg9
 z9:=Tryz.sizeOf9
 v9:=Tryz.zeroValue9
 t20:=Tryz.underlying20
 a20:=Tryz.isAgg20
 z20:=Tryz.sizeOf20
 v20:=Tryz.zeroValue20
 t31:=Tryz.underlying35
 a31:=Tryz.isAgg35
 z31:=Tryz.sizeOf35
 v31:=Tryz.zeroValue35
 t37:=Tryz.underlying34
 a37:=Tryz.isAgg34
 z37:=Tryz.sizeOf34
 v37:=Tryz.zeroValue34
 t70:=Tryz.underlying41
 a70:=Tryz.isAgg41
 z70:=Tryz.sizeOf41
 v70:=Tryz.zeroValue41
 t72:=Tryz.underlying43
 a72:=Tryz.isAgg43
 z72:=Tryz.sizeOf43
 v72:=Tryz.zeroValue43
 t75:=Tryz.underlying63
 a75:=Tryz.isAgg63
 z75:=Tryz.sizeOf63
 v75:=Tryz.zeroValue63
 t76:=Tryz.underlying64
 a76:=Tryz.isAgg64
 z76:=Tryz.sizeOf64
 v76:=Tryz.zeroValue64
 t127:=Tryz.underlying56
 a127:=Tryz.isAgg56
 z127:=Tryz.sizeOf56
 v127:=Tryz.zeroValue56
 t164:=Tryz.underlying86
 a164:=Tryz.isAgg86
 z164:=Tryz.sizeOf86
 v164:=Tryz.zeroValue86}
end Go.Proofs.YtcaeeackccgclaaGreatDoor
