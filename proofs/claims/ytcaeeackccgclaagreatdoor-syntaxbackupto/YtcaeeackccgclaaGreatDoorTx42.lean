/- 42. -/
import Derived.Test.YtcaeeackccgclaaGreatDoorTx41
set_option maxHeartbeats 40000000
set_option maxRecDepth 100000
namespace Go.Proofs.YtcaeeackccgclaaGreatDoor
open Go.RowKit Go.Shelf
theorem WrIs.setZ {B b:Nat}{n m:Int}{bs:List Value}{w:World}(h:WrIs B b n bs w):WrIs B b m bs (w.setCell ⟨b,2,none⟩ (.int .i64 m)):=by
 have key:∀ p,WrAt B b n p bs w→WrAt B b m p bs (w.setCell ⟨b,2,none⟩ (.int .i64 m)):=fun p ⟨hB,v,h1,h2,h3⟩=>by
  refine⟨hB,v,?_,rowKeep h2 (fun g hg=>Below.heap_setCell w ⟨b,2,none⟩ _ g (fun e=>h3 (by rw[hg,e]))),h3⟩
  exact Go.Joins.block_setCell h1 _
 exact h.imp (key _) (key _)
theorem WrIs.kpZ {B b:Nat}{n:Int}{bs:List Value}{w:World}(h:WrIs B b n bs w)(m:Int):Kp B b w (w.setCell ⟨b,2,none⟩ (.int .i64 m)):=by
 have hB:B≤b:=by rcases h with⟨hB,_⟩|⟨hB,_⟩<;>exact hB
 exact⟨(Below.refl B w).setCell hB _,(Lib.OthersKept.refl _ (some b) _).setCell (b:=b) ⟨b,2,none⟩ rfl _⟩
theorem WrIs.f2 {B b:Nat}{n:Int}{bs:List Value}{w:World}(h:WrIs B b n bs w):w.frozen? ⟨b,2,none⟩=false:=by
 rcases h with⟨_,v,h1,_⟩|⟨_,v,h1,_⟩<;>exact Lib.frozen_of_heap h1 2
def Wst (n m d:Nat):Prop:=∀ (B b:Nat) (l:List UInt8) (S:Nat→Prop) (ls:List Sm) (a:Option Addr) (c:Nat) (vs:List (List Value)) (w:World),WrIs B b (d:Int) (Lib.byteCells l) w→B≤w.heap.size→1<B→TabW w→RwT S w ls (.slice a ls.length c) vs→(∀ g,S g→g≠b)→(∀ s∈ls,∃ p q,WfX n m p q s)→l.length+(lnsB (ls.flatMap (lnS n m d))).length≤1000000000→Calls Tryz.prog 11 #[pt b,.slice a ls.length c] w (WpO B b (d:Int) (l++lnsB (ls.flatMap (lnS n m d))) w)
theorem block_w {n m d B b:Nat}{l:List UInt8}{S:Nat→Prop}{ls:List Sm}{a:Option Addr}{c:Nat}{vs:List (List Value)}{w:World}(ih:Wst n m (d+1))(h:WrIs B b (d:Int) (Lib.byteCells l) w)(hB:B≤w.heap.size)(hp:1<B)(ht:TabW w)(hr:RwT S w ls (.slice a ls.length c) vs)(hS:∀ g,S g→g≠b)(hx:∀ s∈ls,∃ p q,WfX n m p q s)(hd:d≤1000000)(hlen:l.length+2+(lnsB (ls.flatMap (lnS n m (d+1)))).length≤1000000000):
  Calls Tryz.prog 26 #[pt b,.slice a ls.length c] w (WpO B b (d:Int) (l++[58,10]++lnsB (ls.flatMap (lnS n m (d+1)))) w):=by
 have HS:=ws_any h hB [58,10] (by show l.length+2≤_;omega)
 obtain⟨d1,hd1⟩:∃ d1,d1=d+1:=⟨_,rfl⟩
 rw[←hd1]at ih hlen ⊢
 have HI:Hid (∀ w1,Kp B b w w1→WrIs B b (d:Int) (Lib.byteCells (l++[58,10])) w1→Kp B b w1 (w1.setCell ⟨b,2,none⟩ (.int .i64 d1))∧Calls Tryz.prog 11 #[pt b,.slice a ls.length c] (w1.setCell ⟨b,2,none⟩ (.int .i64 d1)) (WpO B b (d1:Int) (l++[58,10]++lnsB (ls.flatMap (lnS n m d1))) (w1.setCell ⟨b,2,none⟩ (.int .i64 d1)))):=fun w1 hk h1=>by
  have hk2:=h1.kpZ (d1:Int)
  have hk3:=hk.trans hk2
  exact⟨hk2,ih B b _ S ls a c vs _ h1.setZ (Nat.le_trans hB hk3.1.size) hp (ht.kp hk3 hp) (hr.kpw hk3 hS) hS hx (by rw[List.length_append];exact hlen)⟩
 have q5:IntKind.i64.wrap ((d:Int)+1)=(d1:Int):=by rw[IntKind.wrap_i64];omega
 have q6:IntKind.i64.wrap ((d1:Int)-1)=(d:Int):=by rw[IntKind.wrap_i64];omega
 clear h hB ht hr hx ih hd1 hlen
 generalize lnsB (ls.flatMap (lnS n m d1))=out at *
 go_enter Tryz.func26,Tryz.ntmps26
 go_wp2_with (go_at_call 23;refine HS.mono ?_;rintro e w1 ⟨rfl,h1,hk1,hB1⟩;obtain⟨hk2,HI1⟩:=HI.out w1 hk1 h1;have c2:=h1.c2;have f2:=h1.f2;have HK:Hid (Kp B b w _):=hk1.trans hk2;clear HI HS h1 hk1 hk2 hB1)
 refine HI1.mono ?_
 rintro e w2 ⟨rfl,h2,hk2,hB2⟩
 have c3:=h2.c2
 have f3:=h2.f2
 have h4:WrIs B b (d:Int) _ (w2.setCell ⟨b,2,none⟩ (.int .i64 d)):=h2.setZ
 have HR:Hid (WpO B b (d:Int) (l++[58,10]++out) w (.returned (.tuple #[])) (w2.setCell ⟨b,2,none⟩ (.int .i64 d))):=⟨rfl,h4,(HK.out.trans hk2).trans (h2.kpZ d),Nat.le_trans hB2 (h2.kpZ (d:Int)).1.size⟩
 clear h2 hk2 hB2 h4 HK
 go_wp2
 go_end0
 exact HR.out
theorem st8_w {n m d B b:Nat}{l:List UInt8}{S:Nat→Prop}{x:Sm}{q:Sh}{w:World}(ih:Wst n m (d+1))(h:Ws B b (d:Int) l S x q w)(hkd:x.kind=8)(hx:WfE n x.ex)(hbd:∀ s∈x.body,∃ p q,WfX n m p q s)(hd:d≤1000000)(hlen:l.length+(x.text.length+8)+(lxB (lE n x.ex)).length+2+(lnsB (x.body.flatMap (lnS n m (d+1)))).length≤1000000000):
  Calls Tryz.prog 18 #[pt b,.agg (ta x q)] w (WpO B b (d:Int) (l++([102,111,114,32]++x.text++[32,105,110,32])++lxB (lE n x.ex)++[58,10]++lnsB (x.body.flatMap (lnS n m (d+1)))) w):=by
 obtain⟨hk0,hX,hbox⟩:=h.box
 obtain⟨u0,u1,u2,u3,u4,u5,u6,u7,u8,u9⟩:=(hbox _ (Kp.refl _ _ _)).at0
 obtain⟨_,⟨hrn,hon⟩,⟨vb,hrb⟩,⟨ve,hre⟩⟩:=hX.sm.parts
 have HK:Hid (Kp B b w (w.alloc (.cells (ta x q) 40))):=hk0
 have HE:=before_w (expr_w n) hX.ex hx ([102,111,114,32]++x.text++[32,105,110,32]) (by simp only[List.length_append,List.length_cons,List.length_nil];omega)
 have hs1:¬9223372036854775807<4+(mkB x.text).size:=by rw[mk_size];omega
 have hs2:¬9223372036854775807<(mkB (102::111::114::32::x.text)).size+4:=by rw[mk_size];show ¬_<x.text.length+4+4;omega
 have hc1:((⟨#[102,111,114,32]⟩:ByteArray)++mkB x.text)=mkB (102::111::114::32::x.text):=cat_1 [102,111,114,32] x.text
 have hc2:(mkB (102::111::114::32::x.text)++(⟨#[32,105,110,32]⟩:ByteArray))=⟨([102,111,114,32]++x.text++[32,105,110,32]).toArray⟩:=cat_2 [32,105,110,32] _
 have HB:Hid (∀ V,Kp B b (w.alloc (.cells (ta x q) 40)) V→WrIs B b (d:Int) (Lib.byteCells (l++([102,111,114,32]++x.text++[32,105,110,32])++lxB (lE n x.ex))) V→V.cell? ⟨w.heap.size,8,none⟩=some (.slice q.a3 x.body.length q.c3)∧Calls Tryz.prog 26 #[pt b,.slice q.a3 x.body.length q.c3] V (WpO B b (d:Int) (l++([102,111,114,32]++x.text++[32,105,110,32])++lxB (lE n x.ex)++[58,10]++lnsB (x.body.flatMap (lnS n m (d+1)))) V)):=fun V hV hl=>⟨(hbox V hV).at0.2.2.2.2.2.2.2.2.1,block_w ih hl (Nat.le_trans hX.size hV.1.size) hX.pow (hX.tab.kp hV hX.pow) (hrb.kpw hV hX.own) hX.own hbd hd (by simp only[List.length_append,List.length_cons,List.length_nil];omega)⟩
 have q6:(((x.kind:Nat):Int)==(6:Int))=false:=sd_no hkd 6 (by decide)
 have q7:(((x.kind:Nat):Int)==(7:Int))=false:=sd_no hkd 7 (by decide)
 have q8:(((x.kind:Nat):Int)==(8:Int))=true:=sd_yes hkd
 clear h hX hk0 hbox hkd hlen hbd ih hrb hre hrn hon hx
 generalize[102,111,114,32]++x.text++[32,105,110,32]=ah at *
 unfold ta at *
 unfold fa at HE
 go_enter Tryz.func18,Tryz.ntmps18
 go_wp2_with fail
 refine HE.mono ?_
 rintro e w2 ⟨rfl,h2,hk2,hB2⟩
 obtain⟨s8,HB2⟩:=HB.out w2 hk2 h2
 clear HB HE h2
 go_wp2_with fail
 refine HB2.mono ?_
 rintro e w3 ⟨rfl,h3,hk3,hB3⟩
 go_wp2
 go_end0
 exact⟨rfl,h3,(HK.out.trans hk2).trans hk3,hB3⟩
def dfT (x:Sm):List UInt8:=[100,101,102,32]++x.text++[40]++jT true x.names++[41]
theorem dfT_len (x:Sm):(dfT x).length=x.text.length+(jT true x.names).length+6:=by
 simp only[dfT,List.length_append,List.length_cons,List.length_nil]
 omega
theorem st6_w {n m d B b:Nat}{l:List UInt8}{S:Nat→Prop}{x:Sm}{q:Sh}{w:World}(ih:Wst n m (d+1))(h:Ws B b (d:Int) l S x q w)(hkd:x.kind=6)(hnl:x.names.length≤1000000000)(hbd:∀ s∈x.body,∃ p q,WfX n m p q s)(hd:d≤1000000)(hlen:l.length+(dfT x).length+2+(lnsB (x.body.flatMap (lnS n m (d+1)))).length≤1000000000):
  Calls Tryz.prog 18 #[pt b,.agg (ta x q)] w (WpO B b (d:Int) (l++dfT x++[58,10]++lnsB (x.body.flatMap (lnS n m (d+1)))) w):=by
 obtain⟨hk0,hX,hbox⟩:=h.box
 obtain⟨u0,u1,u2,u3,u4,u5,u6,u7,u8,u9⟩:=(hbox _ (Kp.refl _ _ _)).at0
 obtain⟨_,⟨hrn,hon⟩,⟨vb,hrb⟩,⟨ve,hre⟩⟩:=hX.sm.parts
 have HK:Hid (Kp B b w (w.alloc (.cells (ta x q) 40))):=hk0
 have hdl:=dfT_len x
 obtain⟨J,hJ⟩:∃ J,J=jT true x.names:=⟨_,rfl⟩
 have HJ:Hid (Calls Tryz.prog 25 #[.slice q.a0 x.names.length q.c0,.string ⟨#[44,32]⟩] (w.alloc (.cells (ta x q) 40)).drew fun e w'=>e= .returned (.string (mkB J))∧WrIs B b (d:Int) (Lib.byteCells l) w'∧Kp B b (w.alloc (.cells (ta x q) 40)).drew w'∧B≤w'.heap.size):=by
  rw[hJ]
  exact(join_w (w:=(w.alloc (.cells (ta x q) 40)).drew) hrn (by omega) hnl).mono fun e w' ⟨q1,q2⟩=>⟨q1,bel_kp (w:=(w.alloc (.cells (ta x q) 40)).drew) hX.wr hX.size q2⟩
 obtain⟨A1,hA1⟩:∃ A1,A1=100::101::102::32::x.text:=⟨_,rfl⟩
 obtain⟨A2,hA2⟩:∃ A2,A2=A1++[40]:=⟨_,rfl⟩
 obtain⟨A3,hA3⟩:∃ A3,A3=A2++J:=⟨_,rfl⟩
 have hA4:A3++[41]=dfT x:=by rw[hA3,hA2,hA1,hJ];rfl
 have l1:A1.length=x.text.length+4:=by rw[hA1];rfl
 have l2:A2.length=x.text.length+5:=by rw[hA2,List.length_append,l1];rfl
 have l3:A3.length=x.text.length+5+J.length:=by rw[hA3,List.length_append,l2]
 have hjl:J.length≤1000000000:=by rw[hJ];omega
 have hs1:¬9223372036854775807<4+(mkB x.text).size:=by rw[mk_size];omega
 have hs2:¬9223372036854775807<(mkB A1).size+1:=by rw[mk_size];omega
 have hs3:¬9223372036854775807<(mkB A2).size+(mkB J).size:=by rw[mk_size,mk_size];omega
 have hs4:¬9223372036854775807<(mkB A3).size+1:=by rw[mk_size];omega
 have hc1:((⟨#[100,101,102,32]⟩:ByteArray)++mkB x.text)=mkB A1:=by rw[hA1];exact cat_1 [100,101,102,32] x.text
 have hc2:(mkB A1++(⟨#[40]⟩:ByteArray))=mkB A2:=by rw[hA2];exact cat_2 [40] _
 have hc3:(mkB A2++mkB J)=mkB A3:=by rw[hA3];exact cat_2 J _
 have hc4:(mkB A3++(⟨#[41]⟩:ByteArray))=⟨(dfT x).toArray⟩:=by rw[←hA4];exact cat_2 [41] _
 have HT:Hid (∀ V,Kp B b (w.alloc (.cells (ta x q) 40)) V→V.cell? ⟨w.heap.size,1,none⟩=some (.string (mkB x.text))):=fun V hV=>(hbox V hV).at0.2.1
 have HS:Hid (∀ V,WrIs B b (d:Int) (Lib.byteCells l) V→B≤V.heap.size→Calls Tryz.prog 23 #[pt b,.string ⟨(dfT x).toArray⟩] V fun e w'=>e= .returned (.tuple #[.int .i64 (dfT x).length,.nilIface])∧WrIs B b (d:Int) (Lib.byteCells (l++dfT x)) w'∧Kp B b V w'∧B≤w'.heap.size):=fun V h1 h2=>ws_any h1 h2 _ (by omega)
 have HB:Hid (∀ V,Kp B b (w.alloc (.cells (ta x q) 40)) V→WrIs B b (d:Int) (Lib.byteCells (l++dfT x)) V→V.cell? ⟨w.heap.size,8,none⟩=some (.slice q.a3 x.body.length q.c3)∧Calls Tryz.prog 26 #[pt b,.slice q.a3 x.body.length q.c3] V (WpO B b (d:Int) (l++dfT x++[58,10]++lnsB (x.body.flatMap (lnS n m (d+1)))) V)):=fun V hV hl=>⟨(hbox V hV).at0.2.2.2.2.2.2.2.2.1,block_w ih hl (Nat.le_trans hX.size hV.1.size) hX.pow (hX.tab.kp hV hX.pow) (hrb.kpw hV hX.own) hX.own hbd hd (by rw[List.length_append];omega)⟩
 have q6:(((x.kind:Nat):Int)==(6:Int))=true:=sd_yes hkd
 clear h hX hk0 hbox hkd hlen hbd ih hrb hre hrn hon hJ hA1 hA2 hA3 hA4 l1 l2 l3 hjl hnl hdl
 generalize dfT x=df at *
 unfold ta at *
 go_enter Tryz.func18,Tryz.ntmps18
 go_wp2_with fail
 go_region_with (first
  |(go_at_call 25;refine HJ.out.mono ?_;rintro e w1 ⟨rfl,h1,hk1,hB1⟩;have HS1:=HS.out w1 h1 hB1;have s1:=HT.out w1 hk1.un;clear h1 hB1)
  |(go_at_call 23;refine HS1.mono ?_;rintro e w2 ⟨rfl,h2,hk2,hB2⟩)
  |fail)
 all_goals
  obtain⟨s8,HB2⟩:=HB.out w2 (hk1.un.trans hk2) h2
  clear HB HS HJ h2
  go_wp2_with fail
  refine HB2.mono ?_
  rintro e w3 ⟨rfl,h3,hk3,hB3⟩
  go_wp2
  go_end0
  exact⟨rfl,h3,(HK.out.trans (hk1.un.trans hk2)).trans hk3,hB3⟩
def elB (n m d:Nat)(l:List Sm):List UInt8:=bif l.isEmpty then[]else List.replicate (4*d) 32++[101,108,115,101]++[58,10]++lnsB (l.flatMap (lnS n m (d+1)))
theorem st7_w {n m d B b:Nat}{l:List UInt8}{S:Nat→Prop}{x:Sm}{q:Sh}{w:World}(ih:Wst n m (d+1))(h:Ws B b (d:Int) l S x q w)(hkd:x.kind=7)(hx:WfE n x.ex)(hbd:∀ s∈x.body,∃ p q,WfX n m p q s)(hel:∀ s∈x.els,∃ p q,WfX n m p q s)(hd:d≤1000000)(hlen:l.length+3+(lxB (lE n x.ex)).length+2+(lnsB (x.body.flatMap (lnS n m (d+1)))).length+(elB n m d x.els).length≤1000000000):
  Calls Tryz.prog 18 #[pt b,.agg (ta x q)] w (WpO B b (d:Int) (l++[105,102,32]++lxB (lE n x.ex)++[58,10]++lnsB (x.body.flatMap (lnS n m (d+1)))++elB n m d x.els) w):=by
 obtain⟨hk0,hX,hbox⟩:=h.box
 obtain⟨u0,u1,u2,u3,u4,u5,u6,u7,u8,u9⟩:=(hbox _ (Kp.refl _ _ _)).at0
 obtain⟨_,⟨hrn,hon⟩,⟨vb,hrb⟩,⟨ve,hre⟩⟩:=hX.sm.parts
 have HK:Hid (Kp B b w (w.alloc (.cells (ta x q) 40))):=hk0
 have HE:=before_w (expr_w n) hX.ex hx [105,102,32] (by show l.length+3+_≤_;omega)
 have HB:Hid (∀ V,Kp B b (w.alloc (.cells (ta x q) 40)) V→WrIs B b (d:Int) (Lib.byteCells (l++[105,102,32]++lxB (lE n x.ex))) V→V.cell? ⟨w.heap.size,8,none⟩=some (.slice q.a3 x.body.length q.c3)∧Calls Tryz.prog 26 #[pt b,.slice q.a3 x.body.length q.c3] V (WpO B b (d:Int) (l++[105,102,32]++lxB (lE n x.ex)++[58,10]++lnsB (x.body.flatMap (lnS n m (d+1)))) V)):=fun V hV hl=>⟨(hbox V hV).at0.2.2.2.2.2.2.2.2.1,block_w ih hl (Nat.le_trans hX.size hV.1.size) hX.pow (hX.tab.kp hV hX.pow) (hrb.kpw hV hX.own) hX.own hbd hd (by simp only[List.length_append,List.length_cons,List.length_nil];omega)⟩
 have q6:(((x.kind:Nat):Int)==(6:Int))=false:=sd_no hkd 6 (by decide)
 have q7:(((x.kind:Nat):Int)==(7:Int))=true:=sd_yes hkd
 by_cases he:x.els.length=0
 ·have e0:x.els=[]:=List.length_eq_zero_iff.1 he
  have e1:elB n m d x.els=[]:=by rw[e0];rfl
  rw[e1,List.append_nil]
  have HC:Hid (∀ V,Kp B b (w.alloc (.cells (ta x q) 40)) V→V.cell? ⟨w.heap.size,9,none⟩=some (.slice q.a4 x.els.length q.c4)):=fun V hV=>(hbox V hV).at0.2.2.2.2.2.2.2.2.2
  have hel0:¬(0:Int)<(x.els.length:Int):=by omega
  clear h hX hk0 hbox hkd hlen hbd ih hrb hre hrn hon hx hel e0 e1 he
  unfold ta at *
  unfold fa at HE
  go_enter Tryz.func18,Tryz.ntmps18
  go_wp2_with fail
  refine HE.mono ?_
  rintro e w2 ⟨rfl,h2,hk2,hB2⟩
  obtain⟨s8,HB2⟩:=HB.out w2 hk2 h2
  clear HB HE h2
  go_wp2_with fail
  refine HB2.mono ?_
  rintro e w3 ⟨rfl,h3,hk3,hB3⟩
  have s9:=HC.out w3 (hk2.trans hk3)
  go_wp2
  go_end0
  exact⟨rfl,h3,(HK.out.trans hk2).trans hk3,hB3⟩
 ·have e0:x.els.isEmpty=false:=by
   cases hl:x.els with
   |nil=>rw[hl]at he;exact absurd rfl he
   |cons _ _=>rfl
  have e1:elB n m d x.els=List.replicate (4*d) 32++[101,108,115,101]++[58,10]++lnsB (x.els.flatMap (lnS n m (d+1))):=by unfold elB;rw[e0];rfl
  rw[e1]at hlen ⊢
  simp only[List.length_append,List.length_replicate,List.length_cons,List.length_nil]at hlen
  obtain⟨O,hO⟩:∃ O,O=l++[105,102,32]++lxB (lE n x.ex)++[58,10]++lnsB (x.body.flatMap (lnS n m (d+1))):=⟨_,rfl⟩
  have hOl:O.length=l.length+3+(lxB (lE n x.ex)).length+2+(lnsB (x.body.flatMap (lnS n m (d+1)))).length:=by
   rw[hO]
   simp only[List.length_append,List.length_cons,List.length_nil]
  rw[←hO]at HB ⊢
  rw[←List.append_assoc,←List.append_assoc,←List.append_assoc]
  have HG:Hid (∀ V,WrIs B b (d:Int) (Lib.byteCells O) V→B≤V.heap.size→Calls Tryz.prog 17 #[pt b] V (WpO B b (d:Int) (O++List.replicate (4*d) 32) V)):=fun V h1 h2=>begin_w h1 h2 hd (by omega)
  have HW:Hid (∀ V,WrIs B b (d:Int) (Lib.byteCells (O++List.replicate (4*d) 32)) V→B≤V.heap.size→Calls Tryz.prog 23 #[pt b,.string ⟨#[101,108,115,101]⟩] V fun e w'=>e= .returned (.tuple #[.int .i64 4,.nilIface])∧WrIs B b (d:Int) (Lib.byteCells (O++List.replicate (4*d) 32++[101,108,115,101])) w'∧Kp B b V w'∧B≤w'.heap.size):=fun V h1 h2=>ws_any h1 h2 [101,108,115,101] (by rw[List.length_append,List.length_replicate];show O.length+4*d+4≤_;omega)
  have HC:Hid (∀ V,Kp B b (w.alloc (.cells (ta x q) 40)) V→V.cell? ⟨w.heap.size,9,none⟩=some (.slice q.a4 x.els.length q.c4)∧(WrIs B b (d:Int) (Lib.byteCells (O++List.replicate (4*d) 32++[101,108,115,101])) V→Calls Tryz.prog 26 #[pt b,.slice q.a4 x.els.length q.c4] V (WpO B b (d:Int) (O++List.replicate (4*d) 32++[101,108,115,101]++[58,10]++lnsB (x.els.flatMap (lnS n m (d+1)))) V))):=fun V hV=>⟨(hbox V hV).at0.2.2.2.2.2.2.2.2.2,fun hl=>block_w ih hl (Nat.le_trans hX.size hV.1.size) hX.pow (hX.tab.kp hV hX.pow) (hre.kpw hV hX.own) hX.own hel hd (by simp only[List.length_append,List.length_replicate,List.length_cons,List.length_nil];omega)⟩
  have hel0:(0:Int)<(x.els.length:Int):=by omega
  clear h hX hk0 hbox hkd hlen hbd ih hrb hre hrn hon hx hel e0 e1 hO hOl he
  generalize lnsB (x.els.flatMap (lnS n m (d+1)))=eo at *
  unfold ta at *
  unfold fa at HE
  go_enter Tryz.func18,Tryz.ntmps18
  go_wp2_with fail
  refine HE.mono ?_
  rintro e w2 ⟨rfl,h2,hk2,hB2⟩
  obtain⟨s8,HB2⟩:=HB.out w2 hk2 h2
  clear HB HE h2
  go_wp2_with fail
  refine HB2.mono ?_
  rintro e w3 ⟨rfl,h3,hk3,hB3⟩
  have s9:=(HC.out w3 (hk2.trans hk3)).1
  have HG3:=HG.out w3 h3 hB3
  have HK3:Hid (Kp B b _ w3):=hk2.trans hk3
  clear h3 hk2 hk3 hB3 hB2 HG s8
  go_wp2_with fail
  refine HG3.mono ?_
  rintro e w4 ⟨rfl,h4,hk4,hB4⟩
  have HW4:=HW.out w4 h4 hB4
  clear h4 hB4 HW
  go_wp2_with (go_at_call 23;refine HW4.mono ?_;rintro e w5 ⟨rfl,h5,hk5,hB5⟩;obtain⟨t9,HB5⟩:=HC.out w5 ((HK3.out.trans hk4).trans hk5);have HB6:=HB5 h5;clear HB5 h5 HC)
  refine HB6.mono ?_
  rintro e w6 ⟨rfl,h6,hk6,hB6⟩
  go_wp2
  go_end0
  exact⟨rfl,h6,(((HK.out.trans HK3.out).trans hk4).trans hk5).trans hk6,hB6⟩
theorem st5_w {B b d:Nat}{l o:List UInt8}{S:Nat→Prop}{x:Sm}{q:Sh}{w:World}(h:Ws B b (d:Int) l S x q w)(hkd:x.kind≤5)(hM:∀ V,Ws B b (d:Int) l S x q V→Calls Tryz.prog 28 #[pt b,.agg (ta x q)] V (WpO B b (d:Int) o V))(hlen:o.length+1≤1000000000):
  Calls Tryz.prog 18 #[pt b,.agg (ta x q)] w (WpO B b (d:Int) (o++[10]) w):=by
 obtain⟨hk0,hX,hbox⟩:=h.box
 obtain⟨u0,u1,u2,u3,u4,u5,u6,u7,u8,u9⟩:=(hbox _ (Kp.refl _ _ _)).at0
 have HK:Hid (Kp B b w (w.alloc (.cells (ta x q) 40))):=hk0
 have HE:=hM _ hX
 have q6:(((x.kind:Nat):Int)==(6:Int))=false:=by rw[beq_eq_false_iff_ne];omega
 have q7:(((x.kind:Nat):Int)==(7:Int))=false:=by rw[beq_eq_false_iff_ne];omega
 have q8:(((x.kind:Nat):Int)==(8:Int))=false:=by rw[beq_eq_false_iff_ne];omega
 clear h hX hk0 hbox hkd hM
 unfold ta at *
 go_enter Tryz.func18,Tryz.ntmps18
 go_wp2_with fail
 refine HE.mono ?_
 rintro e w2 ⟨rfl,h2,hk2,hB2⟩
 have HW:=wb_any h2 hB2 10 hlen
 go_wp2_with (go_at_call 29;refine HW.mono ?_;rintro e w3 ⟨rfl,h3,hk3,hB3⟩)
 go_end0
 exact⟨rfl,h3,(HK.out.trans hk2).trans hk3,hB3⟩
theorem small4_w {B b:Nat}{z:Int}{l:List UInt8}{S:Nat→Prop}{x:Sm}{q:Sh}{w:World}(h:Ws B b z l S x q w)(hkd:x.kind=4)(hne:x.names≠[])(hlen:l.length+6+(jT true ((x.text::x.names).map qtL)).length≤1000000000):
  Calls Tryz.prog 28 #[pt b,.agg (ta x q)] w (WpO B b z (l++[108,111,97,100,40]++jT true ((x.text::x.names).map qtL)++[41]) w):=by
 obtain⟨hk0,hX,hbox⟩:=h.box
 obtain⟨u0,u1,u2,u3,u4,u5,u6,u7,u8,u9⟩:=(hbox _ (Kp.refl _ _ _)).at0
 have HE:=load_w hX hne hlen
 have HK:Hid (Kp B b w (w.alloc (.cells (ta x q) 40))):=hk0
 have q1:(((x.kind:Nat):Int)==(1:Int))=false:=sd_no hkd 1 (by decide)
 have q2:(((x.kind:Nat):Int)==(2:Int))=false:=sd_no hkd 2 (by decide)
 have q3:(((x.kind:Nat):Int)==(3:Int))=false:=sd_no hkd 3 (by decide)
 have q4:(((x.kind:Nat):Int)==(4:Int))=true:=sd_yes hkd
 clear h hX hk0 hbox hkd hne hlen
 unfold ta at *
 go_enter Tryz.func28,Tryz.ntmps28
 go_wp2_with fail
 refine HE.mono ?_
 rintro e w2 ⟨rfl,h2,hk2,hB2⟩
 go_wp2
 go_end0
 exact⟨rfl,h2,HK.out.trans hk2,hB2⟩
theorem lnsB_app:∀ a b:List (Nat×List Lx),lnsB (a++b)=lnsB a++lnsB b
 |[],_=>rfl
 |x::a,b=>by
  show List.replicate (4*x.1) 32++(lxB x.2++10::lnsB (a++b))=(List.replicate (4*x.1) 32++(lxB x.2++10::lnsB a))++lnsB b
  rw[lnsB_app a b]
  simp
def stB (n m d:Nat)(x:Sm):List UInt8:=bif decide (x.kind≤5)then lxB (lSm n x)++[10]else lxB (lHd n x)++[10]++lnsB (x.body.flatMap (lnS n m (d+1)))++elB n m d x.els
theorem lns_st (n m d:Nat)(x:Sm):lnsB (lnS n (m+1) d x)=List.replicate (4*d) 32++stB n m d x:=by
 unfold lnS stB
 cases decide (x.kind≤5)
 ·show lnsB (((d,lHd n x)::x.body.flatMap (lnS n m (d+1)))++_)=_++(_++_)
  rw[lnsB_app]
  have e:lnsB (bif x.els.isEmpty then[]else(d,lEl)::x.els.flatMap (lnS n m (d+1)))=elB n m d x.els:=by
   unfold elB
   cases x.els.isEmpty
   ·show List.replicate (4*d) 32++(lxB lEl++10::lnsB (x.els.flatMap (lnS n m (d+1))))=_++_++_++_
    have e:lxB lEl=[101,108,115,101,58]:=rfl
    rw[e]
    simp
   ·rfl
  rw[e]
  show(List.replicate (4*d) 32++(lxB (lHd n x)++10::lnsB (x.body.flatMap (lnS n m (d+1)))))++_=_
  simp
 ·show List.replicate (4*d) 32++(lxB (lSm n x)++10::[])=_
  rfl
theorem hd_b (xs:List Lx):lxB (xs++[kS [58]])++[10]=lxB xs++[58,10]:=by
 rw[lxB_app,List.append_assoc]
 rfl
theorem stmt_w {n m d B b:Nat}{l:List UInt8}{S:Nat→Prop}{x:Sm}{q:Sh}{w:World}{p r:Bool}(ih:Wst n m (d+1))(h:Ws B b (d:Int) l S x q w)(hx:WfX n (m+1) p r x)(hd:d≤1000000)(hlen:l.length+(stB n m d x).length≤1000000000):
  Calls Tryz.prog 18 #[pt b,.agg (ta x q)] w (WpO B b (d:Int) (l++stB n m d x) w):=by
 obtain⟨kd,text,names,ex,body,els⟩:=x
 match kd,h,hx,hlen with
 |0,_,hx,_=>exact hx.elim
 |1,h,_,hlen=>
  have e:stB n m d ⟨1,text,names,ex,body,els⟩=[112,97,115,115]++[10]:=rfl
  rw[e]at hlen ⊢
  have hlen:l.length+5≤1000000000:=hlen
  rw[←List.append_assoc]
  exact st5_w h (by show 1≤5;decide) (fun V hV=>small1_w hV rfl (by omega)) (by rw[List.length_append];exact hlen)
 |2,h,hx,hlen=>
  have e:stB n m d ⟨2,text,names,ex,body,els⟩=[114,101,116,117,114,110,32]++lxB (lE n ex)++[10]:=rfl
  rw[e]at hlen ⊢
  rw[List.length_append,List.length_append]at hlen
  have hl:l.length+(7+(lxB (lE n ex)).length+1)≤1000000000:=hlen
  rw[←List.append_assoc,←List.append_assoc]
  exact st5_w h (by show 2≤5;decide) (fun V hV=>small2_w hV rfl hx.2.1 (by show l.length+7+(lxB (lE n ex)).length≤_;omega)) (by rw[List.length_append,List.length_append];show l.length+7+_+1≤_;omega)
 |3,h,hx,hlen=>
  have e:stB n m d ⟨3,text,names,ex,body,els⟩=(text++[32,61,32])++lxB (lE n ex)++[10]:=by
   show(text++(32::61::32::lxB (lE n ex)))++[10]=_
   simp
  rw[e]at hlen ⊢
  rw[List.length_append,List.length_append,List.length_append]at hlen
  have hl:l.length+(text.length+3+(lxB (lE n ex)).length+1)≤1000000000:=hlen
  rw[←List.append_assoc,←List.append_assoc]
  exact st5_w h (by show 3≤5;decide) (fun V hV=>small3_w hV rfl hx.2.2.2 (by show l.length+(text.length+3)+(lxB (lE n ex)).length≤_;omega)) (by rw[List.length_append,List.length_append,List.length_append];show l.length+(text.length+3)+_+1≤_;omega)
 |4,h,hx,hlen=>
  have e:stB n m d ⟨4,text,names,ex,body,els⟩=[108,111,97,100,40]++jT true ((text::names).map qtL)++[41]++[10]:=by
   show lxB ([kW [108,111,97,100]]++kS [40]::(joinC ((text::names).map fun t=>[kT t])++[kS [41]]))++[10]=_
   rw[lxB_app]
   show([108,111,97,100]++40::lxB (joinC ((text::names).map fun t=>[kT t])++[kS [41]]))++[10]=_
   rw[lxB_app,jT_join,List.map_map]
   have e2:(text::names).map (lxB∘fun t=>[kT t])=(text::names).map qtL:=List.map_congr_left fun t _=>List.append_nil _
   rw[e2]
   rfl
  rw[e]at hlen ⊢
  rw[List.length_append,List.length_append,List.length_append]at hlen
  have hl:l.length+(5+(jT true ((text::names).map qtL)).length+1+1)≤1000000000:=hlen
  rw[←List.append_assoc,←List.append_assoc,←List.append_assoc]
  exact st5_w h (by show 4≤5;decide) (fun V hV=>small4_w hV rfl hx.2.2.1 (by show l.length+6+(jT true ((text::names).map qtL)).length≤_;omega)) (by rw[List.length_append,List.length_append,List.length_append];show l.length+5+_+1+1≤_;omega)
 |5,h,hx,hlen=>
  have e:stB n m d ⟨5,text,names,ex,body,els⟩=lxB (lE n ex)++[10]:=rfl
  rw[e]at hlen ⊢
  rw[List.length_append]at hlen
  have hl:l.length+((lxB (lE n ex)).length+1)≤1000000000:=hlen
  rw[←List.append_assoc]
  exact st5_w h (by show 5≤5;decide) (fun V hV=>small5_w hV rfl hx.2 (by show l.length+(lxB (lE n ex)).length≤_;omega)) (by rw[List.length_append];omega)
 |6,h,hx,hlen=>
  obtain⟨e0,_,_,_,hn,_,_,hb⟩:=hx
  have hels:els=[]:=congrArg Sm.els e0
  subst hels
  have e:stB n m d ⟨6,text,names,ex,body,[]⟩=dfT ⟨6,text,names,ex,body,[]⟩++[58,10]++lnsB (body.flatMap (lnS n m (d+1))):=by
   show lxB (((kW [100,101,102]).and::([kW text]++kS [40]::(joinC (names.map fun t=>[kW t])++[kS [41]])))++[kS [58]])++[10]++lnsB (body.flatMap (lnS n m (d+1)))++[]=_
   rw[hd_b,List.append_nil]
   show([100,101,102]++([32]++lxB ([kW text]++kS [40]::(joinC (names.map fun t=>[kW t])++[kS [41]]))))++[58,10]++_=_
   rw[lxB_app]
   show([100,101,102]++([32]++(lxB [kW text]++40::lxB (joinC (names.map fun t=>[kW t])++[kS [41]]))))++[58,10]++_=_
   rw[lxB_app,jT_join,List.map_map]
   have e2:names.map (lxB∘fun t=>[kW t])=names:=by
    have:(lxB∘fun t=>[kW t])=id:=by
     funext t
     exact List.append_nil _
    rw[this,List.map_id]
   have e3:lxB [kW text]=text:=List.append_nil _
   rw[e2,e3]
   show([100,101,102]++([32]++(text++40::(jT true names++[41]))))++[58,10]++_=_
   simp[dfT]
  rw[e]at hlen ⊢
  rw[List.length_append,List.length_append]at hlen
  have hl:l.length+((dfT ⟨6,text,names,ex,body,[]⟩).length+2+(lnsB (body.flatMap (lnS n m (d+1)))).length)≤1000000000:=hlen
  rw[←List.append_assoc,←List.append_assoc]
  have hnl:names.length≤1000000000:=by
   have a:=jT_len id names fun t ht=>(hn t ht).1.1
   rw[List.map_id]at a
   have b:(dfT ⟨6,text,names,ex,body,[]⟩).length=text.length+(jT true names).length+6:=dfT_len _
   omega
  exact st6_w ih h rfl hnl (fun s hs=>⟨_,_,hb s hs⟩) hd (by show l.length+(dfT ⟨6,text,names,ex,body,[]⟩).length+2+(lnsB (body.flatMap (lnS n m (d+1)))).length≤_;omega)
 |7,h,hx,hlen=>
  obtain⟨_,he,_,hb,hel⟩:=hx
  have e:stB n m d ⟨7,text,names,ex,body,els⟩=[105,102,32]++lxB (lE n ex)++[58,10]++lnsB (body.flatMap (lnS n m (d+1)))++elB n m d els:=by
   show lxB (((kW [105,102]).and::lE n ex)++[kS [58]])++[10]++lnsB (body.flatMap (lnS n m (d+1)))++elB n m d els=_
   rw[hd_b]
   rfl
  rw[e]at hlen ⊢
  rw[List.length_append,List.length_append,List.length_append,List.length_append]at hlen
  have hl:l.length+(3+(lxB (lE n ex)).length+2+(lnsB (body.flatMap (lnS n m (d+1)))).length+(elB n m d els).length)≤1000000000:=hlen
  rw[←List.append_assoc,←List.append_assoc,←List.append_assoc,←List.append_assoc]
  exact st7_w ih h rfl he (fun s hs=>⟨_,_,hb s hs⟩) (fun s hs=>⟨_,_,hel s hs⟩) hd (by show l.length+3+(lxB (lE n ex)).length+2+(lnsB (body.flatMap (lnS n m (d+1)))).length+(elB n m d els).length≤_;omega)
 |8,h,hx,hlen=>
  obtain⟨e0,_,_,he,_,hb⟩:=hx
  have hels:els=[]:=congrArg Sm.els e0
  subst hels
  have e:stB n m d ⟨8,text,names,ex,body,[]⟩=([102,111,114,32]++text++[32,105,110,32])++lxB (lE n ex)++[58,10]++lnsB (body.flatMap (lnS n m (d+1))):=by
   show lxB (((kW [102,111,114]).and::(kW text).and::(kW [105,110]).and::lE n ex)++[kS [58]])++[10]++lnsB (body.flatMap (lnS n m (d+1)))++[]=_
   rw[hd_b,List.append_nil]
   show([102,111,114]++([32]++(text++([32]++([105,110]++([32]++lxB (lE n ex)))))))++[58,10]++_=_
   simp
  rw[e]at hlen ⊢
  simp only[List.length_append]at hlen
  have hl:l.length+(4+text.length+4+(lxB (lE n ex)).length+2+(lnsB (body.flatMap (lnS n m (d+1)))).length)≤1000000000:=hlen
  have ea:∀ t:List UInt8,l++(([102,111,114,32]++text++[32,105,110,32])++lxB (lE n ex)++[58,10]++t)=l++([102,111,114,32]++text++[32,105,110,32])++lxB (lE n ex)++[58,10]++t:=fun t=>by simp
  rw[ea]
  exact st8_w ih h rfl he (fun s hs=>⟨_,_,hb s hs⟩) hd (by show l.length+(text.length+8)+(lxB (lE n ex)).length+2+(lnsB (body.flatMap (lnS n m (d+1)))).length≤_;omega)
 |k+9,_,hx,_=>exact hx.elim
theorem flat10:∀ (vs:List (List Value)) (_:∀ c∈vs,c.length=10) (k:Nat) (c:List Value) (_:vs[k]? =some c) (i:Nat) (_:i<10),vs.flatten[k*10+i]? =c[i]?
 |v::vs,h,0,c,hk,i,hi=>by
  cases hk
  rw[Nat.zero_mul,Nat.zero_add,List.flatten_cons,List.getElem?_append_left (by rw[h v (by simp)];exact hi)]
 |v::vs,h,k+1,c,hk,i,hi=>by
  have hv:=h v (by simp)
  rw[List.flatten_cons,List.getElem?_append_right (by rw[hv];omega),hv,show(k+1)*10+i-10=k*10+i from by omega]
  exact flat10 vs (fun c hc=>h c (by simp[hc])) k c (by simpa using hk) i hi
theorem RwT.atT {S:Nat→Prop}{w:World}{l:List Sm}{a:Option Addr}{n cap:Nat}{vs:List (List Value)}(h:RwT S w l (.slice a n cap) vs)(k:Nat)(hk:k<l.length):∃ g q,a=some ⟨g,0,none⟩∧SmA w S l[k] (tv l[k] q)∧Ten w g (k*10) l[k] q:=by
 obtain⟨g,cap',hv,_,hc⟩:=row_form h.row (by omega)
 cases hv
 have hvl:=h.fa.len
 have hy:SmA w S l[k] (vs[k]'(by omega)):=Fa.get h.fa k hk (by omega)
 obtain⟨a0,c0,a1,c1,a2,c2,a3,c3,a4,c4,hf⟩:=hy.form
 have hcell:∀ i,i<10→w.cell? ⟨g,k*10+i,none⟩=(tv l[k] ⟨a0,c0,a1,c1,a2,c2,a3,c3,a4,c4⟩)[i]? :=fun i hi=>by
  rw[hc (k*10+i) (by have:k+1≤l.length:=hk;omega),flat10 vs (Fa.mem (fun _ _ f=>f.len) h.fa) k _ (List.getElem?_eq_getElem (by omega)) i hi,hf]
  rfl
 rw[hf]at hy
 exact⟨g,⟨a0,c0,a1,c1,a2,c2,a3,c3,a4,c4⟩,rfl,hy,hcell 0 (by decide),hcell 1 (by decide),hcell 2 (by decide),hcell 3 (by decide),hcell 4 (by decide),hcell 5 (by decide),hcell 6 (by decide),hcell 7 (by decide),hcell 8 (by decide),hcell 9 (by decide)⟩
theorem lns_hd {n m d:Nat}{s:Sm}{p q:Bool}(h:WfX n m p q s):4*d+1≤(lnsB (lnS n m d s)).length:=by
 obtain⟨x,r,e⟩:=hd_ls m d s (wfx_s m p q s h)
 rw[e]
 show 4*d+1≤(List.replicate (4*d) 32++(lxB x++10::lnsB r)).length
 rw[List.length_append,List.length_replicate,List.length_append,List.length_cons]
 omega
theorem lns_ne {n m d:Nat}:∀ ls:List Sm,(∀ s∈ls,∃ p q,WfX n m p q s)→ls.length≤(lnsB (ls.flatMap (lnS n m d))).length
 |[],_=>Nat.zero_le _
 |s::ls,h=>by
  have a:=lns_ne (d:=d) ls fun x hx=>h x (List.mem_cons_of_mem _ hx)
  obtain⟨p,q,hw⟩:=h s List.mem_cons_self
  have b:=lns_hd (d:=d) hw
  rw[List.flatMap_cons,lnsB_app,List.length_append]
  show ls.length+1≤_
  omega
def Wso (n m d:Nat):Prop:=∀ (B b:Nat) (l:List UInt8) (S:Nat→Prop) (x:Sm) (q:Sh) (w:World) (p r:Bool),Ws B b (d:Int) (l++List.replicate (4*d) 32) S x q w→WfX n m p r x→l.length+(lnsB (lnS n m d x)).length≤1000000000→Calls Tryz.prog 18 #[pt b,.agg (ta x q)] w (WpO B b (d:Int) (l++lnsB (lnS n m d x)) w)
theorem sts_up {n m d:Nat}(ih:Wst n m (d+1))(hd:d≤1000000):Wso n (m+1) d:=fun B b l S x q w p r h hx hlen=>by
 rw[lns_st]at hlen ⊢
 rw[List.length_append,List.length_replicate]at hlen
 rw[←List.append_assoc]
 exact stmt_w ih h hx hd (by rw[List.length_append,List.length_replicate];omega)
theorem statements_w {n m d:Nat}(ih:Wso n m d)(hd:d≤1000000):Wst n m d:=fun B b l S ls a c vs w h hB hp ht hr hS hx hlen=>by
 have HR:Hid (RwT S w ls (.slice a ls.length c) vs∧TabW w):=⟨hr,ht⟩
 have HI:Hid (∃ l',WrIs B b (d:Int) (Lib.byteCells l') w∧Kp B b w w∧B≤w.heap.size∧l'++lnsB (ls.flatMap (lnS n m d))=l++lnsB (ls.flatMap (lnS n m d))):=⟨l,h,Kp.refl _ _ _,hB,rfl⟩
 have hn:=lns_ne (d:=d) ls hx
 have hni:(ls.length:Int)≤1000000000:=by omega
 have HX:Hid ((∀ s∈ls,∃ p q,WfX n m p q s)∧l.length+(lnsB (ls.flatMap (lnS n m d))).length≤1000000000):=⟨hx,hlen⟩
 obtain⟨out,hout⟩:∃ out,out=l++lnsB (ls.flatMap (lnS n m d)):=⟨_,rfl⟩
 rw[←hout]at HI ⊢
 clear h hB hr ht hx hlen hn
 go_enter Tryz.func11,Tryz.ntmps11
 go_wp2
 go_loopw [8] (fun u wr=>∃ k:Nat,k≤ls.length∧u= .int .i64 (k:Int)∧Hid (∃ l',WrIs B b (d:Int) (Lib.byteCells l') wr∧Kp B b w wr∧B≤wr.heap.size∧l'++lnsB ((ls.drop k).flatMap (lnS n m d))=out)) (fun u _=>ls.length-(intOf u).toNat)
 case atStart=>exact⟨0,Nat.zero_le _,rfl,HI⟩
 case round=>
  obtain⟨k,hk,rfl,hrel⟩:=hrel
  obtain⟨l',hw,hkp,hBw,hll⟩:=hrel.out
  have hll2:=congrArg List.length hll
  rw[hout,List.length_append,List.length_append]at hll2
  clear hrel HI
  by_cases hlt:k<ls.length
  ·have hki:(k:Int)<(ls.length:Int):=by omega
   have hRW:=HR.out.1.kpw hkp hS
   obtain⟨g,q,rfl,hsm,hten⟩:=hRW.atT k hlt
   obtain⟨p1,p2,hwx⟩:=HX.out.1 ls[k] (List.getElem_mem hlt)
   rw[List.drop_eq_getElem_cons hlt,List.flatMap_cons,lnsB_app]at hll hll2
   rw[List.length_append]at hll2
   have hh:=lns_hd (d:=d) hwx
   have hbig:=HX.out.2
   generalize hxx:ls[k]=x at *
   obtain⟨v0,v1,v2,v3,v4,v5,v6,v7,v8,v9⟩:=hten
   have hWs:Ws B b (d:Int) l' S x q wr:=⟨hw,hBw,hp,HR.out.2.kp hkp hp,hsm,hS⟩
   obtain⟨hk1,hX,hbox⟩:=hWs.box
   have HBg:=begin_w hX.wr hX.size hd (by omega)
   have HQ:Hid (∀ V,Kp B b (wr.alloc (.cells (ta x q) 40)) V→WrIs B b (d:Int) (Lib.byteCells (l'++List.replicate (4*d) 32)) V→Ten V wr.heap.size 0 x q∧Calls Tryz.prog 18 #[pt b,.agg (ta x q)] V (WpO B b (d:Int) (l'++lnsB (lnS n m d x)) V)):=fun V hV hl=>⟨hbox V hV,ih B b l' S x q V _ _ (hX.kp hV hl) hwx (by omega)⟩
   have HK1:Hid (Kp B b w (wr.alloc (.cells (ta x q) 40))):=hkp.trans hk1
   have HL:Hid (l'++(lnsB (lnS n m d x)++lnsB ((ls.drop (k+1)).flatMap (lnS n m d)))=out):=hll
   clear hsm hRW hw hkp hBw hk1 hX hbox hWs hwx hll hll2 hbig hxx hh
   unfold ta at *
   go_wp2_with fail
   refine HBg.mono ?_
   rintro e w1 ⟨rfl,h1,hk1,hB1⟩
   obtain⟨ht,HSt⟩:=HQ.out w1 hk1 h1
   obtain⟨u0,u1,u2,u3,u4,u5,u6,u7,u8,u9⟩:=ht.at0
   clear h1 hB1 HBg HQ ht
   go_wp2_with fail
   refine HSt.mono ?_
   rintro e w2 ⟨rfl,h2,hk2,hB2⟩
   have HI:Hid (∃ l'',WrIs B b (d:Int) (Lib.byteCells l'') w2∧Kp B b w w2∧B≤w2.heap.size∧l''++lnsB ((ls.drop (k+1)).flatMap (lnS n m d))=out):=⟨_,h2,(HK1.out.trans hk1).trans hk2,hB2,by rw[←HL.out];simp⟩
   clear h2 hk2 hB2 hk1 HSt HL HK1
   go_wp2
   exact⟨⟨k+1,by omega,by go_num,HI⟩,by simp[intOf];omega⟩
  ·obtain rfl:k=ls.length:=by omega
   rw[List.drop_length]at hll
   have hll:l'++[]=out:=hll
   rw[List.append_nil]at hll
   subst hll
   go_wp2
   go_end0
   exact⟨rfl,hw,hkp,hBw⟩
theorem all_w (n:Nat):∀ m d:Nat,d+m≤1000000→Wst n m d
 |0,_,hd=>statements_w (fun _ _ _ _ _ _ _ _ _ _ h=>h.elim) (by omega)
 |m+1,d,hd=>statements_w (sts_up (all_w n m (d+1) (by omega)) (by omega)) (by omega)
end Go.Proofs.YtcaeeackccgclaaGreatDoor
