/- 3. -/
import Derived.Lib.AtoiAllCases
import Derived.WalkSmall
import Derived.Lib.SmallJoins
import Derived.Deep.AppendLies
import Derived.Deep.DrawnRows
import Derived.Deep.QuietTactic
import Derived.BigQuiet
import Derived.Test.YtcaeeackccgclaaGreatDoorTx2
set_option maxHeartbeats 40000000
set_option maxRecDepth 100000
namespace Go.Proofs.YtcaeeackccgclaaGreatDoor
open Go.RowKit Go.Shelf
theorem valD_ge:∀ (l:List UInt8) (n:Nat),n≤valD n l
 |[],_=>Nat.le_refl _
 |c::r,n=>by
  have:=valD_ge r (10*n+(c.toNat-48))
  unfold valD
  omega
theorem par_lt:∀ (l:List UInt8) (n:Nat),(∀ c∈l,isDg c=true)→valD n l<18446744073709551616→Lib.parseUint10 n l= .ok (valD n l)
 |[],_,_,_=>rfl
 |c::r,n,hd,hn=>by
  have hc:48≤c.toNat∧c.toNat≤57:=by
   have:=hd c (by simp)
   unfold isDg at this
   simpa using this
  have hge:=valD_ge r (10*n+(c.toNat-48))
  have hn':valD (10*n+(c.toNat-48)) r<18446744073709551616:=hn
  have ih:=par_lt r (10*n+(c.toNat-48)) (fun x hx=>hd x (by simp[hx])) hn'
  rw[Lib.parseUint10]
  rw[if_pos hc,if_neg (by omega),if_neg (by omega),Nat.mul_comm n 10,ih]
  rfl
theorem par_ge:∀ (l:List UInt8) (n:Nat),(∀ c∈l,isDg c=true)→n<18446744073709551616→18446744073709551616≤valD n l→Lib.parseUint10 n l= .range
 |[],n,_,hn,h=>by
  have:18446744073709551616≤n:=h
  omega
 |c::r,n,hd,hn,h=>by
  have hc:48≤c.toNat∧c.toNat≤57:=by
   have:=hd c (by simp)
   unfold isDg at this
   simpa using this
  have h':18446744073709551616≤valD (10*n+(c.toNat-48)) r:=h
  rw[Lib.parseUint10]
  rw[if_pos hc]
  by_cases h1:1844674407370955162≤n
  ·rw[if_pos h1]
  ·rw[if_neg h1]
   by_cases h2:18446744073709551616≤n*10+(c.toNat-48)
   ·rw[if_pos h2]
   ·rw[if_neg h2,Nat.mul_comm n 10]
    exact par_ge r _ (fun x hx=>hd x (by simp[hx])) (by omega) h'
theorem atoi_lo (l:List UInt8)(h0:l≠[])(hd:∀ c∈l,isDg c=true)(hv:valD 0 l<9223372036854775808):Lib.atoiAll l= .ok (valD 0 l:Int):=by
 match l,h0 with
 |c::r,_=>
  have hc:48≤c.toNat∧c.toNat≤57:=by
   have:=hd c (by simp)
   unfold isDg at this
   simpa using this
  have hp:Lib.parseMag (c::r)= .ok (valD 0 (c::r)):=by
   unfold Lib.parseMag
   rw[if_neg (by simp)]
   exact par_lt (c::r) 0 hd (by omega)
  rw[Lib.atoiAll_plain c r (by omega) (by omega),hp]
  unfold Lib.signless
  simp only
  rw[if_neg (by omega)]
theorem atoi_hi (l:List UInt8)(h0:l≠[])(hd:∀ c∈l,isDg c=true)(hv:¬valD 0 l<9223372036854775808):Lib.atoiAll l= .range:=by
 match l,h0 with
 |c::r,_=>
  have hc:48≤c.toNat∧c.toNat≤57:=by
   have:=hd c (by simp)
   unfold isDg at this
   simpa using this
  rw[Lib.atoiAll_plain c r (by omega) (by omega)]
  by_cases h1:valD 0 (c::r)<18446744073709551616
  ·have hp:Lib.parseMag (c::r)= .ok (valD 0 (c::r)):=by
    unfold Lib.parseMag
    rw[if_neg (by simp)]
    exact par_lt (c::r) 0 hd h1
   rw[hp]
   unfold Lib.signless
   simp only
   rw[if_pos (by omega)]
  ·have hp:Lib.parseMag (c::r)= .range:=by
    unfold Lib.parseMag
    rw[if_neg (by simp)]
    exact par_ge (c::r) 0 hd (by decide) (by omega)
   rw[hp]
   rfl
def ErrR (w:World):Prop:=∃ ev,w.cell? ⟨3,0,none⟩=some ev∧(ev= .nilIface∨∃ te pe,ev= .iface te pe)
theorem ErrR.up {w w':World}(h:ErrR w)(hb:Below w.heap.size w w'):ErrR w':=by
 obtain⟨ev,h1,h2⟩:=h
 exact⟨ev,(hb.cell (p:=⟨3,0,none⟩) (World.block_lt_of_cell? w ⟨3,0,none⟩ h1)).trans h1,h2⟩
theorem atoi_ok (l:List UInt8)(w:World)(h0:l≠[])(hd:∀ c∈l,isDg c=true)(hl:l.length≤1000000)(hv:valD 0 l<9223372036854775808):
  Calls Tryz.prog 99 #[.string (mkB l)] w fun e w'=>e= .returned (.tuple #[.int .i64 (valD 0 l),.nilIface])∧Below w.heap.size w w':=by
 refine(Any.strconv_Atoi_ok laysA (mkB l) (by rw[mk_size];omega) (valD 0 l) (by rw[mk_data];exact atoi_lo l h0 hd hv) w).mono ?_
 rintro e w' ⟨rfl,h⟩
 refine⟨rfl,?_⟩
 rcases h with rfl|⟨t,rfl⟩
 ·exact Below.refl _ _
 ·unfold Lib.bytesWorld
  exact Lib.below_freeze (Below.alloc (Below.drew (Below.refl w.heap.size w)) (Nat.le_refl _) _) (p:=⟨w.heap.size,_,none⟩) (Nat.le_refl _) _
theorem atoi_big (l:List UInt8)(w:World)(h0:l≠[])(hd:∀ c∈l,isDg c=true)(hl:l.length≤1000000)(hv:¬valD 0 l<9223372036854775808)(hr:ErrR w):
  Calls Tryz.prog 99 #[.string (mkB l)] w fun e w'=>∃ (x:Int) (t:TypeId) (p:Value),e= .returned (.tuple #[.int .i64 x,.iface t p])∧Below w.heap.size w w':=by
 obtain⟨ev,h1,h2⟩:=hr
 refine(Any.strconv_Atoi_range laysA (mkB l) (by rw[mk_size];omega) (by rw[mk_data];exact atoi_hi l h0 hd hv) ev w h1 h2).mono ?_
 rintro e w' ⟨N,rfl,_,_,hb⟩
 exact⟨_,_,_,rfl,hb⟩
theorem take_dig:∀ (l:List UInt8),∀ c∈l.take (rch isDg l),isDg c=true
 |[],c,hc=>by simp at hc
 |a::r,c,hc=>by
  unfold rch at hc
  cases ha:isDg a with
  |false=>rw[ha]at hc;simp at hc
  |true=>
   rw[ha]at hc
   simp only[cond_true,List.take_succ_cons,List.mem_cons]at hc
   rcases hc with rfl|hc
   ·exact ha
   ·exact take_dig r c hc
theorem rch_pos {h:UInt8→Bool}{l:List UInt8}(h0:0<l.length)(hc:h (l.getD 0 0)=true):0<rch h l:=by
 match l,h0 with
 |a::r,_=>
  have:h a=true:=hc
  unfold rch
  rw[this]
  exact Nat.succ_pos _
theorem isNoInt_any (l:List UInt8)(w:World)(h0:0<l.length)(hl:l.length≤1000000)(hc:isDg (l.getD 0 0)=true)(hr:ErrR w):
  Calls Tryz.prog 96 #[.string (mkB l)] w fun e w'=>e= .returned (.bool (noInt l))∧Below w.heap.size w w':=by
 have HR:Hid (∀ w,Calls Tryz.prog 116 #[.string (mkB l),.func (.func 95) #[] #[]] w fun e w'=>e= .returned (.int .i64 (rch isDg l))∧w'=w):=fun w=>by
  have:=reach_any 95 isDg (mkB l) w (by rw[mk_size];exact hl) (says_digit w)
  rwa [mk_data]at this
 have hp:=rch_pos h0 hc
 have hle:=rch_le isDg l
 have hni:noInt l=(decide (9007199254740991<valD 0 (l.take (rch isDg l)))||(decide (1<rch isDg l)&&decide ((l.getD 0 0).toNat=48))):=rfl
 rw[hni]
 have hdl:(l.take (rch isDg l)).length=rch isDg l:=by rw[List.length_take];omega
 have hne:l.take (rch isDg l)≠[]:=by intro e;rw[e]at hdl;simp at hdl;omega
 have had:=take_dig l
 have hsl:=sl_front l (rch isDg l) _ rfl hle
 have hg0:(l.take (rch isDg l)).getD 0 0=l.getD 0 0:=by
  match l,h0,hp with
  |a::r,_,hp=>
   obtain⟨m,hm⟩:∃ m,rch isDg (a::r)=m+1:=⟨rch isDg (a::r)-1,by omega⟩
   rw[hm]
   rfl
 rw[←hg0]
 have HOK:Hid (valD 0 (l.take (rch isDg l))<9223372036854775808→Calls Tryz.prog 99 #[.string (mkB (l.take (rch isDg l)))] w fun e w'=>e= .returned (.tuple #[.int .i64 (valD 0 (l.take (rch isDg l))),.nilIface])∧Below w.heap.size w w'):=fun hv=>atoi_ok _ w hne had (by omega) hv
 have HBG:Hid (¬valD 0 (l.take (rch isDg l))<9223372036854775808→Calls Tryz.prog 99 #[.string (mkB (l.take (rch isDg l)))] w fun e w'=>∃ (x:Int) (t:TypeId) (p:Value),e= .returned (.tuple #[.int .i64 x,.iface t p])∧Below w.heap.size w w'):=fun hv=>atoi_big _ w hne had (by omega) hv hr
 clear hni had hc hr hg0 hne
 generalize rch isDg l=k at *
 have hk1:(k:Int)≤(l.length:Int):=by omega
 have hszl:(mkB l).size=l.length:=mk_size l
 generalize hds:l.take k=ds at *
 have hsd:(mkB ds).size=k:=by rw[mk_size,hdl]
 have hs0:0<(mkB ds).size:=by omega
 have hgd:=mk_get ds 0 hs0
 have hq:=c_eq (ds.getD 0 0) 48
 generalize ds.getD 0 0=c0 at *
 have hq':((c0.toNat:Int)==48)=decide (c0.toNat=48):=hq
 generalize decide (c0.toNat=48)=b3 at *
 generalize valD 0 ds=V at *
 clear hq hds hdl
 by_cases hv:V<9223372036854775808
 ·have HA:Hid (Calls Tryz.prog 99 #[.string (mkB ds)] w fun e w'=>e= .returned (.tuple #[.int .i64 V,.nilIface])∧Below w.heap.size w w'):=HOK.out hv
  clear HOK HBG
  by_cases h1:9007199254740991<V
  ·have h1i:(9007199254740991:Int)<(V:Int):=by omega
   rw[show decide (9007199254740991<V)=true from by simpa using h1,Bool.true_or]
   clear h1 hv
   go_enter Tryz.func96,Tryz.ntmps96
   go_wp2_with fail
   refine(HR.out _).mono ?_
   rintro e w' ⟨rfl,rfl⟩
   go_wp2_with fail
   refine HA.out.mono ?_
   rintro e w1 ⟨rfl,hb⟩
   have B1:Hid (Below _ _ w1):=hb
   clear hb
   go_wp2
   go_ret
   exact⟨rfl,B1.out⟩
  ·have h1i:(V:Int)≤9007199254740991:=by omega
   have h1d:decide ((9007199254740991:Int)<(V:Int))=false:=by simp;omega
   rw[show decide (9007199254740991<V)=false from by simpa using h1,Bool.false_or]
   clear h1 hv
   by_cases h2:1<k
   ·have h2i:(1:Int)<(k:Int):=by omega
    rw[show decide (1<k)=true from by simpa using h2,Bool.true_and]
    clear h2
    go_enter Tryz.func96,Tryz.ntmps96
    go_wp2_with fail
    refine(HR.out _).mono ?_
    rintro e w' ⟨rfl,rfl⟩
    go_wp2_with fail
    refine HA.out.mono ?_
    rintro e w1 ⟨rfl,hb⟩
    have B1:Hid (Below _ _ w1):=hb
    clear hb
    go_wp2
    go_ret
    exact⟨rfl,B1.out⟩
   ·have h2i:(k:Int)≤1:=by omega
    rw[show decide (1<k)=false from by simpa using h2,Bool.false_and]
    clear h2
    go_enter Tryz.func96,Tryz.ntmps96
    go_wp2_with fail
    refine(HR.out _).mono ?_
    rintro e w' ⟨rfl,rfl⟩
    go_wp2_with fail
    refine HA.out.mono ?_
    rintro e w1 ⟨rfl,hb⟩
    have B1:Hid (Below _ _ w1):=hb
    clear hb
    go_wp2
    go_ret
    exact⟨rfl,B1.out⟩
 ·have HA:Hid (Calls Tryz.prog 99 #[.string (mkB ds)] w fun e w'=>∃ (x:Int) (t:TypeId) (p:Value),e= .returned (.tuple #[.int .i64 x,.iface t p])∧Below w.heap.size w w'):=HBG.out hv
  rw[show decide (9007199254740991<V)=true from by simp;omega,Bool.true_or]
  clear HOK HBG hv
  go_enter Tryz.func96,Tryz.ntmps96
  go_wp2_with fail
  refine(HR.out _).mono ?_
  rintro e w' ⟨rfl,rfl⟩
  go_wp2_with fail
  refine HA.out.mono ?_
  rintro e w1 ⟨x,t,p,rfl,hb⟩
  have B1:Hid (Below _ _ w1):=hb
  clear hb
  go_wp2
  go_ret
  exact⟨rfl,B1.out⟩
def tc (t:Tk):List Value:=[.int .i64 t.kind,.string (mkB t.text),.int .i64 t.num,.int .i64 t.pos]
def tcs (l:List Tk):List Value:=l.flatMap tc
theorem tcs_snoc (l:List Tk)(t:Tk):tcs (l++[t])=tcs l++tc t:=by simp[tcs]
def ics (l:List Nat):List Value:=l.map fun n:Nat=>.int .i64 (n:Int)
theorem ics_snoc (l:List Nat)(x:Nat):ics (l++[x])=ics l++[.int .i64 x]:=by simp[ics]
structure TS (B P:Nat)(L:List UInt8)(tv iv:Value)(w:World)(p:Sp):Prop where
 hB:B≤P
 blk:w.heap[P]? =some (.cells #[.string (mkB L),.int .i64 p.pos,tv,iv,.int .i64 p.opn] 72 (0,0))
 ot:w.ownsRow B 84 4 tv p.toks.length (tcs p.toks)
 oi:w.ownsRow B 3 1 iv p.ins.length (ics p.ins.reverse)
 nt:tv.ownBlock≠some P
 ni:iv.ownBlock≠some P
 nn:∀ a,tv.ownBlock=some a→iv.ownBlock≠some a
theorem own_heap {w w':World}{base:Nat}{e:TypeId}{size:Nat}{v:Value}{n:Nat}{xs:List Value}(h:w.ownsRow base e size v n xs)(hh:∀ g,v.ownBlock=some g→w'.heap[g]? =w.heap[g]?):w'.ownsRow base e size v n xs:=by
 refine⟨h.1,?_⟩
 rcases h.2 with hn|⟨g,cap,cur,rfl,hb,hgg,rest⟩
 ·exact .inl hn
 ·exact .inr ⟨g,cap,cur,rfl,hb,(hh g rfl).trans hgg,rest⟩
section
variable {B P:Nat} {L:List UInt8} {tv iv:Value} {w:World} {p:Sp}
theorem TS.lt (h:TS B P L tv iv w p):P<w.heap.size:=(Array.getElem?_eq_some_iff.1 h.blk).1
theorem TS.c0 (h:TS B P L tv iv w p):w.cell? ⟨P,0,none⟩=some (.string (mkB L)):=by rw[Lib.cell_of_heap h.blk];rfl
theorem TS.c1 (h:TS B P L tv iv w p):w.cell? ⟨P,1,none⟩=some (.int .i64 p.pos):=by rw[Lib.cell_of_heap h.blk];rfl
theorem TS.c2 (h:TS B P L tv iv w p):w.cell? ⟨P,2,none⟩=some tv:=by rw[Lib.cell_of_heap h.blk];rfl
theorem TS.c3 (h:TS B P L tv iv w p):w.cell? ⟨P,3,none⟩=some iv:=by rw[Lib.cell_of_heap h.blk];rfl
theorem TS.c4 (h:TS B P L tv iv w p):w.cell? ⟨P,4,none⟩=some (.int .i64 p.opn):=by rw[Lib.cell_of_heap h.blk];rfl
theorem TS.fz (h:TS B P L tv iv w p)(i:Nat):w.frozen? ⟨P,i,none⟩=false:=Lib.frozen_of_heap h.blk i
theorem TS.keep (h:TS B P L tv iv w p){w':World}(hh:∀ g,g<w.heap.size→B≤g→w'.heap[g]? =w.heap[g]?):TS B P L tv iv w' p:=
 ⟨h.hB,(hh P h.lt h.hB).trans h.blk,own_heap h.ot fun g hg=>hh g (h.ot.lt g hg).2 (h.ot.lt g hg).1,own_heap h.oi fun g hg=>hh g (h.oi.lt g hg).2 (h.oi.lt g hg).1,h.nt,h.ni,h.nn⟩
theorem TS.drewN (h:TS B P L tv iv w p)(n:Nat):TS B P L tv iv (w.drewN n) p:=h.keep fun _ _ _=>rfl
theorem TS.up (h:TS B P L tv iv w p){w':World}(hb:Below w.heap.size w w'):TS B P L tv iv w' p:=h.keep fun g hg _=>hb.block g hg
theorem TS.set (h:TS B P L tv iv w p)(i:Nat)(v:Value){tv' iv':Value}{q:Sp}(hc:(#[.string (mkB L),.int .i64 p.pos,tv,iv,.int .i64 p.opn]:Array Value).setIfInBounds i v=#[.string (mkB L),.int .i64 q.pos,tv',iv',.int .i64 q.opn])
  (ht:w.ownsRow B 84 4 tv' q.toks.length (tcs q.toks)) (hi:w.ownsRow B 3 1 iv' q.ins.length (ics q.ins.reverse)) (nt:tv'.ownBlock≠some P) (ni:iv'.ownBlock≠some P) (nn:∀ a,tv'.ownBlock=some a→iv'.ownBlock≠some a)
  {w':World} (hw:∀ g:Nat,w'.heap[g]? =(w.setCell ⟨P,i,none⟩ v).heap[g]?):TS B P L tv' iv' w' q:=by
 have k:∀ g:Nat,g≠P→w'.heap[g]? =w.heap[g]? :=fun g hg=>(hw g).trans (Below.heap_setCell w ⟨P,i,none⟩ v g hg)
 refine⟨h.hB,?_,own_heap ht fun g hg=>k g fun e=>nt (by rw[hg,e]),own_heap hi fun g hg=>k g fun e=>ni (by rw[hg,e]),nt,ni,nn⟩
 rw[hw P,Go.Joins.block_setCell h.blk,hc]
theorem TS.setPos (h:TS B P L tv iv w p)(x:Nat){w':World}(hw:∀ g:Nat,w'.heap[g]? =(w.setCell ⟨P,1,none⟩ (.int .i64 x)).heap[g]?):TS B P L tv iv w' {p with pos:=x}:=
 h.set 1 (.int .i64 x) (q:={p with pos:=x}) rfl h.ot h.oi h.nt h.ni h.nn hw
theorem TS.setOpn (h:TS B P L tv iv w p)(x:Nat){w':World}(hw:∀ g:Nat,w'.heap[g]? =(w.setCell ⟨P,4,none⟩ (.int .i64 x)).heap[g]?):TS B P L tv iv w' {p with opn:=x}:=
 h.set 4 (.int .i64 x) (q:={p with opn:=x}) rfl h.ot h.oi h.nt h.ni h.nn hw
end
theorem at_drop (L:List UInt8)(k:Nat):(L.drop k).getD 0 0=L.getD k 0:=by
 rw[List.getD_eq_getElem?_getD,List.getD_eq_getElem?_getD,List.getElem?_drop,Nat.add_zero]
theorem ended_any {B P:Nat}{L:List UInt8}{tv iv:Value}{w:World}{p:Sp}(h:TS B P L tv iv w p):
  Calls Tryz.prog 41 #[.pointer (some ⟨P,0,none⟩)] w fun e w'=>e= .returned (.bool (decide (p.pos=L.length)))∧∃ n,w'=w.drewN n:=by
 have c0:=h.c0
 have c1:=h.c1
 have hsz:=mk_size L
 have hq:((p.pos:Int)==(L.length:Int))=decide (p.pos=L.length):=by rw[Bool.eq_iff_iff];simp;omega
 generalize decide (p.pos=L.length)=b at *
 clear h
 go_enter Tryz.func41,Tryz.ntmps41
 go_wp2
 go_region
 all_goals go_wp2
 all_goals
  go_ret
  exact⟨rfl,1,rfl⟩
theorem rest_any {B P:Nat}{L:List UInt8}{tv iv:Value}{w:World}{p:Sp}(h:TS B P L tv iv w p)(hp:p.pos≤L.length):
  Calls Tryz.prog 92 #[.pointer (some ⟨P,0,none⟩)] w fun e w'=>e= .returned (.string (mkB (L.drop p.pos)))∧∃ n,w'=w.drewN n:=by
 have c0:=h.c0
 have c1:=h.c1
 have hsl:=sl_back L p.pos _ rfl hp
 have hsz:=mk_size L
 have hpi:(p.pos:Int)≤(L.length:Int):=by omega
 generalize mkB (L.drop p.pos)=r at *
 clear h
 go_enter Tryz.func92,Tryz.ntmps92
 go_wp2
 go_region
 all_goals go_wp2
 all_goals
  go_ret
  exact⟨rfl,1,rfl⟩
theorem sees_any {B P:Nat}{L:List UInt8}{tv iv:Value}{w:World}{p:Sp}(h:TS B P L tv iv w p)(hp:p.pos≤L.length)(c:Nat)(hc:c≠0):
  Calls Tryz.prog 61 #[.pointer (some ⟨P,0,none⟩),.int .u8 c] w fun e w'=>e= .returned (.bool (decide ((L.getD p.pos 0).toNat=c)))∧∃ n,w'=w.drewN n:=by
 have HE:Hid (∀ n,Calls Tryz.prog 41 #[.pointer (some ⟨P,0,none⟩)] (w.drewN n) fun e w'=>e= .returned (.bool (decide (p.pos=L.length)))∧∃ m,w'=(w.drewN n).drewN m):=fun n=>ended_any (h.drewN n)
 have c0:=h.c0
 have c1:=h.c1
 have hsz:=mk_size L
 by_cases he:p.pos=L.length
 ·have hb:decide ((L.getD p.pos 0).toNat=c)=false:=by
   rw[List.getD_eq_getElem?_getD,List.getElem?_eq_none (by omega)]
   simp
   exact fun e=>hc e.symm
  rw[hb]
  rw[show decide (p.pos=L.length)=true from by simpa using he]at HE
  clear h he hb
  go_enter Tryz.func61,Tryz.ntmps61
  go_wp2
  go_quiet ((go_at_call 41;exact Calls.quiet_of (HE.out _)))
  go_wp2
  go_ret
  exact⟨rfl,nq,rfl⟩
 ·rw[show decide (p.pos=L.length)=false from by simpa using he]at HE
  have hlt:p.pos<L.length:=by omega
  have hpi:(p.pos:Int)<(L.length:Int):=by omega
  have hs0:p.pos<(mkB L).size:=by rw[hsz];exact hlt
  have hg:=mk_get L p.pos hs0
  have hq:=c_eq (L.getD p.pos 0) c
  generalize decide ((L.getD p.pos 0).toNat=c)=b at *
  generalize L.getD p.pos 0=x at *
  generalize p.pos=k at *
  clear h he
  go_enter Tryz.func61,Tryz.ntmps61
  go_wp2
  go_quiet ((go_at_call 41;exact Calls.quiet_of (HE.out _)))
  go_wp2
  go_ret
  exact⟨rfl,nq,rfl⟩
theorem Sp.top_at (p:Sp)(h:0<p.ins.length):(ics p.ins.reverse)[p.ins.length-1]? =some (.int .i64 (p.top:Nat)):=by
 match hp:p.ins,h with
 |a::r,_=>
  have:p.top=a:=by unfold Sp.top;rw[hp];rfl
  rw[this]
  simp[ics]
theorem in_any {B P:Nat}{L:List UInt8}{tv iv:Value}{w:World}{p:Sp}(h:TS B P L tv iv w p)(h0:0<p.ins.length)(h1:p.ins.length≤1000000):
  Calls Tryz.prog 64 #[.pointer (some ⟨P,0,none⟩)] w fun e w'=>e= .returned (.int .i64 p.top)∧∃ n,w'=w.drewN n:=by
 have c3:=h.c3
 obtain⟨g,cap,hv,hg1,hg2⟩:=h.oi.form h0
 subst hv
 have cx:w.cell? ⟨g,p.ins.length-1,none⟩=some (.int .i64 (p.top:Nat)):=(h.oi.cellAt (p.ins.length-1) (by omega)).trans (p.top_at h0)
 generalize p.top=x at *
 generalize p.ins.length=n at *
 obtain⟨m,rfl⟩:∃ m,n=m+1:=⟨n-1,by omega⟩
 rw[Nat.add_sub_cancel]at cx
 have j0:(((m+1:Nat):Int)-1)=(m:Int):=by omega
 have j1:IntKind.i64.wrap (((m+1:Nat):Int)-1)=(m:Int):=by rw[IntKind.wrap_i64];omega
 have j2:(0:Int)≤(m:Int):=by omega
 have j3:(m:Int)<((m+1:Nat):Int):=by omega
 clear h
 go_enter Tryz.func64,Tryz.ntmps64
 go_wp2
 go_region
 all_goals go_wp2
 all_goals
  go_ret
  exact⟨rfl,1,rfl⟩
abbrev PF (k:Int)(x:Nat):Ending:= .panicked [{v:= .iface 25 (.agg #[.int .i64 k,.int .i64 x]),recovered:=false}]
theorem giveUp_any {B P:Nat}{L:List UInt8}{tv iv:Value}{w:World}{p:Sp}(h:TS B P L tv iv w p)(k:Int):
  Calls Tryz.prog 65 #[.pointer (some ⟨P,0,none⟩),.int .i64 k] w fun e w'=>e=PF k p.pos∧w'=w:=by
 have c1:=h.c1
 generalize p.pos=x at *
 clear h
 go_enter Tryz.func65,Tryz.ntmps65
 go_wp2
 exact⟨rfl,rfl,rfl⟩
theorem infT:(Tryz.prog.info? 84).map (fun i=>(i.zero,i.size,i.bytes))=some (some (.agg #[.int .i64 0,.string ⟨#[]⟩,.int .i64 0,.int .i64 0]),4,40):=by kernel_rfl
theorem infI:(Tryz.prog.info? 3).map (fun i=>(i.zero,i.size,i.bytes))=some (some (.int .i64 0),1,8):=by kernel_rfl
theorem info_p {i:Option TypeInfo}{z:Value}{s b:Nat}(h:i.map (fun i=>(i.zero,i.size,i.bytes))=some (some z,s,b)):∃ i0,i=some i0∧i0.zero=some z∧i0.size=s∧i0.bytes=b:=by
 match i,h with
 |some i0,h=>
  simp at h
  exact⟨i0,rfl,h.1,h.2.1,h.2.2⟩
theorem al_at (W:World)(b:Nat)(cs:Array Value)(ty:TypeId)(k:Nat)(v:Value)(hb:b=W.heap.size)(hv:cs[k]? =some v):(W.alloc (.cells cs ty)).cell? ⟨b,k,none⟩=some v:=by
 subst hb
 rw[Lib.cell_of_heap (heap_alloc_new W _)]
 exact hv
theorem add0 (g j:Nat):(⟨g,0,none⟩:Addr).add j=⟨g,j,none⟩:=by
 unfold Addr.add
 split<;>simp_all
theorem new_tok (W:World)(t:Tk):∀ (j:Nat) (u:Value),(tc t)[j]? =some u→(W.alloc (.cells #[.int .i64 t.kind,.string (mkB t.text),.int .i64 t.num,.int .i64 t.pos] 84)).cell? ((⟨W.heap.size,0,none⟩:Addr).add j)=some u:=by
 intro j u hj
 rw[add0]
 have hj4:j<4:=by
  have:=(List.getElem?_eq_some_iff.1 hj).1
  exact this
 refine al_at W _ _ _ j u rfl ?_
 match j,hj4,hj with
 |0,_,hj=>exact hj
 |1,_,hj=>exact hj
 |2,_,hj=>exact hj
 |3,_,hj=>exact hj
theorem tc_one (t:Tk):∀ u∈tc t,u.oneCell'=true:=by
 intro u hu
 simp[tc]at hu
 rcases hu with rfl|rfl|rfl|rfl<;>rfl
theorem TS.put {B P:Nat}{L:List UInt8}{tv iv:Value}{w:World}{p:Sp}(h:TS B P L tv iv w p)(t:Tk){W w1 w':World}(hW:∀ g:Nat,g<w.heap.size→W.heap[g]? =w.heap[g]?)(hWs:w.heap.size<W.heap.size){g1 cap1:Nat}
  (hown:w1.ownsRow B 84 4 (.slice (some ⟨g1,0,none⟩) (p.toks.length+1) cap1) (p.toks.length+1) (tcs p.toks++tc t)) (hgrow:W.grownBy w1 tv.ownBlock) (hat:tv.ownBlock=some g1∨g1=W.heap.size)
  (hw:∀ g:Nat,w'.heap[g]? =(w1.setCell ⟨P,2,none⟩ (.slice (some ⟨g1,0,none⟩) (p.toks.length+1) cap1)).heap[g]?):TS B P L (.slice (some ⟨g1,0,none⟩) (p.toks.length+1) cap1) iv w' {p with toks:=p.toks++[t]}:=by
 have hP:=h.lt
 have hgP:g1≠P:=by
  rcases hat with e|e
  ·exact fun e2=>h.nt (by rw[e,e2])
  ·omega
 have hgi:iv.ownBlock≠some g1:=by
  rcases hat with e|e
  ·exact h.nn g1 e
  ·intro e2
   have:=(h.oi.lt g1 e2).2
   omega
 have hb:w1.heap[P]? =w.heap[P]? :=(hgrow.block P (by omega) (fun e=>h.nt e.symm)).trans (hW P hP)
 have hoi:w1.ownsRow B 3 1 iv p.ins.length (ics p.ins.reverse):=own_heap h.oi fun g hg=>(hgrow.block g (by have:=(h.oi.lt g hg).2;omega) (fun e=>h.nn g e.symm hg)).trans (hW g (h.oi.lt g hg).2)
 have k:∀ g:Nat,g≠P→w'.heap[g]? =w1.heap[g]? :=fun g hg=>(hw g).trans (Below.heap_setCell w1 ⟨P,2,none⟩ _ g hg)
 have e4:(p.toks++[t]).length=p.toks.length+1:=by simp
 refine⟨h.hB,?_,?_,own_heap hoi fun g hg=>k g fun e=>h.ni (by rw[hg,e]),?_,h.ni,?_⟩
 ·rw[hw P,Go.Joins.block_setCell (hb.trans h.blk)]
  rfl
 ·show w'.ownsRow _ _ _ _ (p.toks++[t]).length (tcs (p.toks++[t]))
  rw[e4,tcs_snoc]
  exact own_heap hown fun g hg=>k g (by simp[Value.ownBlock]at hg;subst hg;exact hgP)
 ·simp[Value.ownBlock]
  exact hgP
 ·intro a ha
  simp[Value.ownBlock]at ha
  subst ha
  exact hgi
theorem heap_al (w:World)(o:Obj)(g:Nat)(hg:g<w.heap.size):(w.alloc o).heap[g]? =w.heap[g]? :=((Below.refl w.heap.size w).alloc (Nat.le_refl _) o).block g hg
theorem add_any {B P:Nat}{L:List UInt8}{tv iv:Value}{w:World}{p:Sp}(h:TS B P L tv iv w p)(k:Nat)(hk:p.toks.length≤100000):
  Calls Tryz.prog 66 #[.pointer (some ⟨P,0,none⟩),.int .i64 k] w fun e w'=>e= .returned (.tuple #[])∧∃ tv',TS B P L tv' iv w' (p.add k)∧Below B w w':=by
 obtain⟨i0,hi,hz0,hz1,hz2⟩:=info_p infT
 have H:Hid (TS B P L tv iv w p):=h
 have c1:=h.c1
 have c2:=h.c2
 have hPl:=h.lt
 have hBl:B≤w.heap.size:=by have:=h.hB;omega
 have hadd:p.add k={p with toks:=p.toks++[⟨k,[],0,p.pos⟩]}:=rfl
 rw[hadd]
 have HNW:Hid (∀ (j:Nat) (u:Value),(tc ⟨k,[],0,p.pos⟩)[j]? =some u→((w.alloc (.cells #[.int .i64 k,.string ⟨#[]⟩,.int .i64 0,.int .i64 p.pos] 84)).drew).cell? ((⟨w.heap.size,0,none⟩:Addr).add j)=some u):=new_tok w ⟨k,[],0,p.pos⟩
 have hone:=tc_one ⟨k,[],0,p.pos⟩
 have hnl:(tc ⟨k,[],0,p.pos⟩).length=1*4:=rfl
 have q1:p.toks.length+1≤maxLen:=by unfold maxLen;omega
 have q2:(p.toks.length+1)*40≤140737488355328:=by omega
 have HOW:Hid (((w.alloc (.cells #[.int .i64 k,.string ⟨#[]⟩,.int .i64 0,.int .i64 p.pos] 84)).drew).ownsRow B 84 4 tv p.toks.length (tcs p.toks)):=h.ot.alloc _
 have q3:B≤((w.alloc (.cells #[.int .i64 k,.string ⟨#[]⟩,.int .i64 0,.int .i64 p.pos] 84)).drew).heap.size:=by show B≤(w.alloc _).heap.size;rw[World.size_alloc];omega
 have q4:((w.alloc (.cells #[.int .i64 k,.string ⟨#[]⟩,.int .i64 0,.int .i64 p.pos] 84)).drew).heap.size=w.heap.size+1:=by show(w.alloc _).heap.size=_;rw[World.size_alloc]
 have HPUT:Hid (∀ {w1 w':World} {g1 cap1:Nat},w1.ownsRow B 84 4 (.slice (some ⟨g1,0,none⟩) (p.toks.length+1) cap1) (p.toks.length+1) (tcs p.toks++tc ⟨k,[],0,p.pos⟩)→((w.alloc (.cells #[.int .i64 k,.string ⟨#[]⟩,.int .i64 0,.int .i64 p.pos] 84)).drew).grownBy w1 tv.ownBlock→(tv.ownBlock=some g1∨g1=w.heap.size+1)→(∀ g:Nat,w'.heap[g]? =(w1.setCell ⟨P,2,none⟩ (.slice (some ⟨g1,0,none⟩) (p.toks.length+1) cap1)).heap[g]?)→TS B P L (.slice (some ⟨g1,0,none⟩) (p.toks.length+1) cap1) iv w' {p with toks:=p.toks++[⟨k,[],0,p.pos⟩]}):=by
  intro w1 w' g1 cap1 a1 a2 a3 a4
  exact H.out.put ⟨k,[],0,p.pos⟩ (W:=(w.alloc _).drew) (fun g hg=>heap_al w _ g hg) (by rw[q4];omega) a1 a2 (by rw[q4];exact a3) a4
 have HP1:Hid (∀ {w1:World},((w.alloc (.cells #[.int .i64 k,.string ⟨#[]⟩,.int .i64 0,.int .i64 p.pos] 84)).drew).grownBy w1 tv.ownBlock→w1.cell? ⟨P,2,none⟩=some tv∧w1.frozen? ⟨P,2,none⟩=false∧Below B w w1):=by
  intro w1 hg
  have e1:w1.heap[P]? =w.heap[P]? :=(hg.block P (by rw[q4];omega) (fun e=>H.out.nt e.symm)).trans (heap_al w _ P hPl)
  exact⟨by rw[Lib.cell_of_heap (e1.trans H.out.blk)];rfl,Lib.frozen_of_heap (e1.trans H.out.blk) 2,(((Below.refl B w).alloc hBl _).drew).grown hg q3 (fun j hj=>(H.out.ot.lt j hj).1)⟩
 generalize tc ⟨k,[],0,p.pos⟩=news at *
 generalize tcs p.toks=ts at *
 generalize p.pos=x at *
 generalize p.toks.length=n at *
 clear h hadd hk
 go_enter Tryz.func66,Tryz.ntmps66
 go_wp2
 go_region_law (first
   |((refine step_append_lies ((w.alloc (.cells #[.int .i64 k,.string ⟨#[]⟩,.int .i64 0,.int .i64 x] 84)).drew) (by rfl) (Operand.tmp 8) (Operand.tmp 15) 48 (by rfl) B 84 i0 (.agg #[.int .i64 0,.string ⟨#[]⟩,.int .i64 0,.int .i64 0]) 4 40 Tryz.underlying48 hi hz0 hz1 hz2 rfl (by decide) tv n ts (by rfl) HOW.out ⟨w.heap.size,0,none⟩ 1 1 news (by rfl) hnl HNW.out hone (by decide) q1 q2 q3 (w.heap.size+1) q4 ?_;intro g' cap' w1 hown1 hgrow hat hltg;obtain⟨d2,f2,hb1⟩:=HP1.out hgrow))
   |fail)
 all_goals
  have HF:Hid (w1.ownsRow B 84 4 (.slice (some ⟨g',0,none⟩) (n+1) cap') (n+1) (ts++news)∧((w.alloc (.cells #[.int .i64 k,.string ⟨#[]⟩,.int .i64 0,.int .i64 x] 84)).drew).grownBy w1 tv.ownBlock∧(tv.ownBlock=some g'∨g'=w.heap.size+1)∧Below B w w1):=⟨hown1,hgrow,hat,hb1⟩
  clear hown1 hgrow hat hb1 hltg
  go_wp2
  go_end0
  exact⟨rfl,_,HPUT.out HF.out.1 HF.out.2.1 HF.out.2.2.1 (fun g=>rfl),HF.out.2.2.2.setCell (p:=⟨P,2,none⟩) H.out.hB _⟩
def Dr (w W:World):Prop:=∃ n,W=w.drewN n
theorem Dr.refl (w:World):Dr w w:=⟨0,rfl⟩
theorem Dr.drewN {w W:World}(h:Dr w W)(m:Nat):Dr w (W.drewN m):=by
 obtain⟨n,rfl⟩:=h
 exact⟨n+m,by rw[World.drewN_drewN]⟩
theorem Dr.drew {w W:World}(h:Dr w W):Dr w W.drew:=h.drewN 1
theorem Dr.trans {w W V:World}(h:Dr w W)(h':Dr W V):Dr w V:=by
 obtain⟨m,rfl⟩:=h'
 exact h.drewN m
theorem take_any {B P:Nat}{L:List UInt8}{tv iv:Value}{w:World}{p:Sp}(h:TS B P L tv iv w p)(hL:L.length≤6000)(hp:p.pos≤L.length)(F:Nat)(hh:UInt8→Bool)(hF:∀ W,Dr w W→Says F #[] W hh):
  Calls Tryz.prog 88 #[.pointer (some ⟨P,0,none⟩),.func (.func F) #[] #[]] w fun e w'=>e= .returned (.string (mkB ((L.drop p.pos).take (rch hh (L.drop p.pos)))))∧TS B P L tv iv w' {p with pos:=p.pos+rch hh (L.drop p.pos)}∧Below B w w'∧∀ g:Nat,g≠P→w'.heap[g]? =w.heap[g]? :=by
 have H:Hid (TS B P L tv iv w p):=h
 have HRe:Hid (∀ W,Dr w W→Calls Tryz.prog 92 #[.pointer (some ⟨P,0,none⟩)] W fun e w'=>e= .returned (.string (mkB (L.drop p.pos)))∧Dr w w'):=fun W hW=>by
  obtain⟨n,rfl⟩:=hW
  refine(rest_any (h.drewN n) hp).mono ?_
  rintro e w' ⟨he,m,rfl⟩
  exact⟨he,Dr.drewN ⟨n,rfl⟩ m⟩
 have HRc:Hid (∀ W,Dr w W→Calls Tryz.prog 116 #[.string (mkB (L.drop p.pos)),.func (.func F) #[] #[]] W fun e w'=>e= .returned (.int .i64 (rch hh (L.drop p.pos)))∧w'=W):=fun W hW=>by
  have:=reach_any F hh (mkB (L.drop p.pos)) W (by rw[mk_size,List.length_drop];omega) (hF W hW)
  rwa [mk_data]at this
 have c0:=h.c0
 have c1:=h.c1
 have f1:=h.fz 1
 have hsz:=mk_size L
 have hle:=rch_le hh (L.drop p.pos)
 rw[List.length_drop]at hle
 have HSP:Hid (∀ w':World,(∀ g:Nat,w'.heap[g]? =(w.setCell ⟨P,1,none⟩ (.int .i64 ((p.pos+rch hh (L.drop p.pos):Nat):Int))).heap[g]?)→TS B P L tv iv w' {p with pos:=p.pos+rch hh (L.drop p.pos)}):=fun w' hw=>h.setPos _ hw
 have hsl:=sl_mid L p.pos (p.pos+rch hh (L.drop p.pos)) _ _ rfl rfl (by omega) (by omega)
 rw[Nat.add_sub_cancel_left]at hsl
 generalize mkB ((L.drop p.pos).take (rch hh (L.drop p.pos)))=out at *
 generalize mkB (L.drop p.pos)=rs at *
 generalize rch hh (L.drop p.pos)=k at *
 have hpi:(p.pos:Int)≤6000:=by omega
 have hki:(k:Int)≤6000:=by omega
 have hs1:(p.pos:Int)+(k:Int)=((p.pos+k:Nat):Int):=by omega
 have hs2:((p.pos+k:Nat):Int)≤(L.length:Int):=by omega
 have hs3:(p.pos:Int)≤((p.pos+k:Nat):Int):=by omega
 obtain⟨y,hy⟩:∃ y,y=p.pos+k:=⟨_,rfl⟩
 rw[←hy]at hsl hs1 hs2 hs3 HSP
 rw[←hy]
 have hw1:IntKind.i64.wrap (y:Int)=(y:Int):=by rw[IntKind.wrap_i64];omega
 generalize hx:p.pos=x at *
 clear h hF hle hy
 go_enter Tryz.func88,Tryz.ntmps88
 go_wp2
 go_region_with (first
  |(go_at_call 92;refine(HRe.out _ (Dr.drew (Dr.refl _))).mono ?_;rintro e w1 ⟨rfl,n1,rfl⟩)
  |(go_at_call 116;refine(HRc.out _ ⟨_,rfl⟩).mono ?_;rintro e w' ⟨rfl,rfl⟩)
  |fail)
 all_goals
  have HT:Hid (TS B P L tv iv ((w.drewN n1).setCell ⟨P,1,none⟩ (.int .i64 (y:Int))) {p with pos:=y}):=HSP.out _ (fun g=>rfl)
  have HKP:Hid (∀ g:Nat,g≠P→((w.drewN n1).setCell ⟨P,1,none⟩ (.int .i64 (y:Int))).heap[g]? =w.heap[g]?):=fun g hg=>Below.heap_setCell (w.drewN n1) ⟨P,1,none⟩ _ g hg
  have HBL:Hid (Below B w ((w.drewN n1).setCell ⟨P,1,none⟩ (.int .i64 (y:Int)))):=(below_drewN (Below.refl B w) n1).setCell (p:=⟨P,1,none⟩) H.out.hB _
  have d0:=HT.out.c0
  have d1:=HT.out.c1
  generalize(w.drewN n1).setCell ⟨P,1,none⟩ (.int .i64 (y:Int))=w2 at *
  go_wp2
  go_quiet (fail)
  go_wp2
  go_ret
  exact⟨rfl,HT.out.drewN nq,below_drewN HBL.out nq,HKP.out⟩
theorem take_cap {B P:Nat}{L:List UInt8}{tv iv:Value}{w:World}{p:Sp}(h:TS B P L tv iv w p)(hL:L.length≤6000)(hp:p.pos≤L.length)(F:Nat)(u:Value)(hh:UInt8→Bool)(hF:∀ W,Dr w W→Says F #[u] W hh):
  Calls Tryz.prog 88 #[.pointer (some ⟨P,0,none⟩),.func (.func F) #[] #[u]] w fun e w'=>e= .returned (.string (mkB ((L.drop p.pos).take (rch hh (L.drop p.pos)))))∧TS B P L tv iv w' {p with pos:=p.pos+rch hh (L.drop p.pos)}∧Below B w w'∧∀ g:Nat,g≠P→w'.heap[g]? =w.heap[g]? :=by
 have H:Hid (TS B P L tv iv w p):=h
 have HRe:Hid (∀ W,Dr w W→Calls Tryz.prog 92 #[.pointer (some ⟨P,0,none⟩)] W fun e w'=>e= .returned (.string (mkB (L.drop p.pos)))∧Dr w w'):=fun W hW=>by
  obtain⟨n,rfl⟩:=hW
  refine(rest_any (h.drewN n) hp).mono ?_
  rintro e w' ⟨he,m,rfl⟩
  exact⟨he,Dr.drewN ⟨n,rfl⟩ m⟩
 have HRc:Hid (∀ W,Dr w W→Calls Tryz.prog 116 #[.string (mkB (L.drop p.pos)),.func (.func F) #[] #[u]] W fun e w'=>e= .returned (.int .i64 (rch hh (L.drop p.pos)))∧w'=W):=fun W hW=>by
  have:=reach_cap F u hh (mkB (L.drop p.pos)) W (by rw[mk_size,List.length_drop];omega) (hF W hW)
  rwa [mk_data]at this
 have c0:=h.c0
 have c1:=h.c1
 have f1:=h.fz 1
 have hsz:=mk_size L
 have hle:=rch_le hh (L.drop p.pos)
 rw[List.length_drop]at hle
 have HSP:Hid (∀ w':World,(∀ g:Nat,w'.heap[g]? =(w.setCell ⟨P,1,none⟩ (.int .i64 ((p.pos+rch hh (L.drop p.pos):Nat):Int))).heap[g]?)→TS B P L tv iv w' {p with pos:=p.pos+rch hh (L.drop p.pos)}):=fun w' hw=>h.setPos _ hw
 have hsl:=sl_mid L p.pos (p.pos+rch hh (L.drop p.pos)) _ _ rfl rfl (by omega) (by omega)
 rw[Nat.add_sub_cancel_left]at hsl
 generalize mkB ((L.drop p.pos).take (rch hh (L.drop p.pos)))=out at *
 generalize mkB (L.drop p.pos)=rs at *
 generalize rch hh (L.drop p.pos)=k at *
 have hpi:(p.pos:Int)≤6000:=by omega
 have hki:(k:Int)≤6000:=by omega
 have hs1:(p.pos:Int)+(k:Int)=((p.pos+k:Nat):Int):=by omega
 have hs2:((p.pos+k:Nat):Int)≤(L.length:Int):=by omega
 have hs3:(p.pos:Int)≤((p.pos+k:Nat):Int):=by omega
 obtain⟨y,hy⟩:∃ y,y=p.pos+k:=⟨_,rfl⟩
 rw[←hy]at hsl hs1 hs2 hs3 HSP
 rw[←hy]
 have hw1:IntKind.i64.wrap (y:Int)=(y:Int):=by rw[IntKind.wrap_i64];omega
 generalize hx:p.pos=x at *
 clear h hF hle hy
 go_enter Tryz.func88,Tryz.ntmps88
 go_wp2
 go_region_with (first
  |(go_at_call 92;refine(HRe.out _ (Dr.drew (Dr.refl _))).mono ?_;rintro e w1 ⟨rfl,n1,rfl⟩)
  |(go_at_call 116;refine(HRc.out _ ⟨_,rfl⟩).mono ?_;rintro e w' ⟨rfl,rfl⟩)
  |fail)
 all_goals
  have HT:Hid (TS B P L tv iv ((w.drewN n1).setCell ⟨P,1,none⟩ (.int .i64 (y:Int))) {p with pos:=y}):=HSP.out _ (fun g=>rfl)
  have HKP:Hid (∀ g:Nat,g≠P→((w.drewN n1).setCell ⟨P,1,none⟩ (.int .i64 (y:Int))).heap[g]? =w.heap[g]?):=fun g hg=>Below.heap_setCell (w.drewN n1) ⟨P,1,none⟩ _ g hg
  have HBL:Hid (Below B w ((w.drewN n1).setCell ⟨P,1,none⟩ (.int .i64 (y:Int)))):=(below_drewN (Below.refl B w) n1).setCell (p:=⟨P,1,none⟩) H.out.hB _
  have d0:=HT.out.c0
  have d1:=HT.out.c1
  generalize(w.drewN n1).setCell ⟨P,1,none⟩ (.int .i64 (y:Int))=w2 at *
  go_wp2
  go_quiet (fail)
  go_wp2
  go_ret
  exact⟨rfl,HT.out.drewN nq,below_drewN HBL.out nq,HKP.out⟩
end Go.Proofs.YtcaeeackccgclaaGreatDoor
