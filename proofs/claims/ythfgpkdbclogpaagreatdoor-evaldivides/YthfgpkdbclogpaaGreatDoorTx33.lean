/- 33. -/
import Derived.Test.YthfgpkdbclogpaaGreatDoorTx32
set_option maxHeartbeats 40000000
set_option maxRecDepth 100000
namespace Go.Proofs.YthfgpkdbclogpaaGreatDoor
open Go.RowKit Go.Shelf
attribute [local go_sem ↓] fld0 fld1 fld2 fld3
def ldK (t:Tk):List (List UInt8)→Ps→Px Sm:=fun l p=>bnd (tkS [41] p) fun _ p=>ok ⟨4,t.text,l,⟨0,0,[],[],[]⟩,[],[]⟩ p
structure LdJ (P T lo Lb:Nat)(t:Tk)(W wr:World)(l:List (List UInt8))(p:Ps)(nv:Value):Prop where
 ps:PsA P T wr p
 kp:KP P W wr
 r:wr.heap[W.heap.size]? =some sz
 sV:SV wr Lb [.int .i64 4,.string (mkB t.text),nv,.int .i64 0,.int .i64 0,.string ⟨#[]⟩,.slice none 0 0,.slice none 0 0,.slice none 0 0,.slice none 0 0]
 nr:wr.ownsRow lo 9 1 nv l.length (l.map sv)
 nn:nv.ownBlock≠some Lb
 lo:lo≤wr.heap.size
theorem LdJ.up {P T lo Lb:Nat}{t:Tk}{W wr w':World}{l:List (List UInt8)}{p p':Ps}{nv:Value}(h:LdJ P T lo Lb t W wr l p nv)(k:KP P wr w')(hp:PsA P T w' p')(hP:P<lo)(hPL:Lb≠P)(hPW:W.heap.size≠P):LdJ P T lo Lb t W w' l p' nv:=
 ⟨hp,h.kp.trans k,k.heapEq h.r hPW,h.sV.keep (k.blk _ h.sV.lt hPL),own_heap h.nr fun g hg=>k.blk g (h.nr.lt g hg).2 (by have:=(h.nr.lt g hg).1;omega),h.nn,Nat.le_trans h.lo k.size⟩
def LdI (P T lo Lb:Nat)(t:Tk)(W:World)(z:Except Ft (Sm×Ps))(wr:World):Prop:=∃ l p f nv,bnd (ldL f l p) (ldK t)=some z∧LdJ P T lo Lb t W wr l p nv
theorem ldL_step {f:Nat}{l:List (List UInt8)}{p:Ps}{t:Tk}{z:Except Ft (Sm×Ps)}(h:bnd (ldL (f+1) l p) (ldK t)=some z)(hc:(decide (0<l.length)&&p.sees [[41]])=false):
  l.length<1000000∧((∃ x,tkS [44] p=some (.error x)∧z= .error x)∨∃ q1,tkS [44] p=some (.ok ((),q1))∧((isNmL q1.nx.text=false∧z= .error (1,q1.nx.pos))∨isNmL q1.nx.text=true∧((∃ x,tkK 3 q1=some (.error x)∧z= .error x)∨∃ u q,tkK 3 q1=some (.ok (u,q))∧less q p=true∧bnd (ldL f (l++[u.text]) q) (ldK t)=some z))):=by
 unfold ldL at h
 simp only[hc,cond_false]at h
 have hn:decide (l.length<1000000)=true:=by
  cases hd:decide (l.length<1000000)with
  |true=>rfl
  |false=>rw[hd]at h;cases h
 rw[hn]at h
 refine⟨of_decide_eq_true hn,?_⟩
 unfold iff at h
 simp only[cond_true]at h
 cases h1:tkS [44] p with
 |none=>rw[h1]at h;cases h
 |some r1=>
  rw[h1]at h
  match r1,h with
  | .error x,h=>exact .inl ⟨x,rfl,(Option.some.inj h).symm⟩
  | .ok ((),q1),h=>
   refine .inr ⟨q1,rfl,?_⟩
   simp only[bnd]at h
   cases hm:isNmL q1.nx.text with
   |false=>
    rw[hm]at h
    exact .inl ⟨rfl,(Option.some.inj h).symm⟩
   |true=>
    rw[hm]at h
    refine .inr ⟨rfl,?_⟩
    simp only[guIf,Bool.not_true,cond_false,ok]at h
    cases h3:tkK 3 q1 with
    |none=>rw[h3]at h;cases h
    |some r3=>
     rw[h3]at h
     match r3,h with
     | .error x,h=>exact .inl ⟨x,rfl,(Option.some.inj h).symm⟩
     | .ok (u,q),h=>
      refine .inr ⟨u,q,rfl,?_⟩
      simp only at h
      cases hl:less q p with
      |false=>rw[hl]at h;cases h
      |true=>rw[hl]at h;exact⟨rfl,h⟩
theorem loading_any {P T:Nat}:MethS P T 255 loadS:=by
 intro W p z h hr hz
 have hPl:=h.lt
 have hTl:=h.ltT
 have h0:=h.up (alB W sz)
 have hk0:=KP.al P W sz
 have hr0:=heap_alloc_new W sz
 have HEr:Hid (∀ W',KP P W W'→ErrR W'):=fun W' hk=>hr.kp (hr.ne h) hk
 have HG:=giveUpIf_any h0 (decide (0<p.blk)) 4
 have d2:=h0.d2
 clear h hr
 obtain⟨R1,hR1⟩:∃ R,R=subW [true,true,true,true,true,false,false,false,true,false,true,true] (Tryz.f255.body.getD .skip):=⟨_,rfl⟩
 have HR1:Hid (R1=subW [true,true,true,true,true,false,false,false,true,false,true,true] (Tryz.f255.body.getD .skip)):=hR1
 have hl1:subW [true,true,true,true,true,false,false,false,true,false,true,true] (Tryz.f255.body.getD .skip)=R1:=hR1.symm
 conv at hl1=>lhs;whnf
 go_enter Tryz.func255,Tryz.ntmps255
 clear hR1 hl1
 unfold loadS guIf at hz
 by_cases hb:0<p.blk
 ·have hbi:(0:Int)<(p.blk:Int):=by omega
  simp only[hb,decide_true,cond_true]at HG hz
  cases hz
  go_wp2_with fail
  refine HG.mono ?_
  rintro e1 w1 ⟨rfl,hb1⟩
  exact⟨rfl,rfl,hk0.trans (KP.of_below hb1)⟩
 have hbi:¬(0:Int)<(p.blk:Int):=by omega
 simp only[hb,decide_false,cond_false]at HG hz
 replace hz:(bnd (tkS [108,111,97,100] p) fun _ p=>bnd (tkS [40] p) fun _ p=>bnd (tkK 3 p) fun t p=>bnd (ldL (p.toks.length+1) [] p) (ldK t))=some z:=hz
 go_wp2_with fail
 refine HG.mono ?_
 rintro e1 w1 ⟨rfl,hb1⟩
 have h1:=h0.up hb1
 have hk1:=hk0.trans (KP.of_below (P:=P) hb1)
 have hr1:=(KP.of_below (P:=P) hb1).heapEq hr0 (by omega)
 clear h0 hk0 hr0 hb1 HG hbi hb d2
 rcases bnd_some hz with⟨x,hx,rfl⟩|⟨_,p2,hx,hz2⟩
 ·have HT:=takeSign_any h1 [108,111,97,100] hx
  go_wp2_with fail
  refine HT.mono ?_
  rintro eX wX hpo
  obtain⟨rfl,hkX⟩:=bad_panic hpo hk1
  exact⟨rfl,rfl,hkX⟩
 have HT:=takeSign_any h1 [108,111,97,100] hx
 go_wp2_with fail
 refine HT.mono ?_
 rintro e2 w2 ⟨v2,rfl,rfl,h2,hj2⟩
 have hk2:=hk1.trans hj2
 have hr2:=hj2.heapEq hr1 (by omega)
 clear HT hz hx hj2 h1 hk1 hr1
 rcases bnd_some hz2 with⟨x,hx,rfl⟩|⟨_,p3,hx,hz3⟩
 ·have HT:=takeSign_any h2 [40] hx
  go_wp2_with fail
  refine HT.mono ?_
  rintro eX wX hpo
  obtain⟨rfl,hkX⟩:=bad_panic hpo hk2
  exact⟨rfl,rfl,hkX⟩
 have HT:=takeSign_any h2 [40] hx
 go_wp2_with fail
 refine HT.mono ?_
 rintro e3 w3 ⟨v3,rfl,rfl,h3,hj3⟩
 have hk3:=hk2.trans hj3
 have hr3:=hj3.heapEq hr2 (by omega)
 clear HT hz2 hx hj3 h2 hk2 hr2
 rcases bnd_some hz3 with⟨x,hx,rfl⟩|⟨t,p4,hx,hz4⟩
 ·have HT:=take2_any h3 3 (by decide) hx
  go_wp2_with fail
  refine HT.mono ?_
  rintro eX wX hpo
  obtain⟨rfl,hkX⟩:=bad_panic hpo hk3
  exact⟨rfl,rfl,hkX⟩
 have HT:=take2_any h3 3 (by decide) hx
 go_wp2_with fail
 refine HT.mono ?_
 rintro e4 w4 ⟨v4,rfl,rfl,h4,hj4⟩
 have hk4:=hk3.trans hj4
 have hr4:=hj4.heapEq hr3 (by omega)
 have hs4:W.heap.size<w4.heap.size:=(Array.getElem?_eq_some_iff.1 hr4).1
 have HJ:Hid (LdI P T (w4.heap.size+1) w4.heap.size t W z (w4.alloc (.cells #[.int .i64 4,.string (mkB t.text),.slice none 0 0,.int .i64 0,.int .i64 0,.string ⟨#[]⟩,.slice none 0 0,.slice none 0 0,.slice none 0 0,.slice none 0 0] 164))):=⟨[],p4,_,.slice none 0 0,hz4,h4.up (alB w4 _),hk4.trans (KP.al P w4 _),(heap_al _ _ _ hs4).trans hr4,SV.new w4 rfl,World.ownsRow_nil _ _ _ _,(fun e=>by cases e),by rw[World.size_alloc];exact Nat.le_refl _⟩
 clear HT hz3 hx hj4 h3 hk3 hr3 h4 hk4 hr4 hz4
 go_wp2
 generalize w4.alloc (.cells #[.int .i64 4,.string (mkB t.text),.slice none 0 0,.int .i64 0,.int .i64 0,.string ⟨#[]⟩,.slice none 0 0,.slice none 0 0,.slice none 0 0,.slice none 0 0] 164)=w5 at *
 generalize w4.heap.size=Lb at *
 go_loopw [] (fun wr=>Hid (LdI P T (Lb+1) Lb t W z wr)) (fun wr=>tkLen P wr)
 case atStart=>exact HJ
 case round=>
  obtain⟨l,p',f,nv,hj,J⟩:=hrel.out
  obtain⟨an,cn,rfl⟩:=row_shape J.nr
  have htk:=J.ps.tk
  have c2:=J.sV.at_ 2 rfl
  have hLW:W.heap.size<Lb:=hs4
  clear hrel HJ
  have hl1:subW [true,true,true,true,true,false,false,false,true,false,true,true] (Tryz.f255.body.getD .skip)=R1:=HR1.out.symm
  conv at hl1=>lhs;whnf
  rw[hl1]
  clear hl1
  cases f with
  |zero=>cases hj
  |succ f=>
  cases hc:(decide (0<l.length)&&p'.sees [[41]])with
  |true=>
   obtain⟨hl0,hse⟩:=(Bool.and_eq_true _ _).mp hc
   have hl1:0<l.length:=of_decide_eq_true hl0
   have hi:¬(l.length:Int)=0:=by omega
   have hi2:¬l=[]:=fun e=>by rw[e]at hl1;simp at hl1
   have hi3:¬l.length=0:=by omega
   unfold ldL at hj
   simp only[hc,cond_true]at hj
   replace hj:ldK t l p'=some z:=hj
   have HS:=seesW J.ps [41]
   rw[hse]at HS
   go_wp2_with fail
   refine HS.mono ?_
   rintro e6 w6 ⟨rfl,hk6,hp6⟩
   have J6:=J.up hk6 hp6 (by omega) (by omega) (by omega)
   clear J HS hk6 hc hl0 hse c2
   rcases bnd_some hj with⟨x,hx,rfl⟩|⟨_,q7,hx,hj2⟩
   ·have HT:=takeSign_any hp6 [41] hx
    go_wp2_with fail
    refine HT.mono ?_
    rintro e7 w7 hpo
    obtain⟨rfl,hk7⟩:=bad_panic hpo J6.kp
    exact⟨rfl,rfl,hk7⟩
   have HT:=takeSign_any hp6 [41] hx
   cases hj2
   go_wp2_with fail
   refine HT.mono ?_
   rintro e7 w7 ⟨v7,rfl,rfl,h7,hj7⟩
   have J7:=J6.up hj7 h7 (by omega) (by omega) (by omega)
   have hsm:SmA w7 (fun g=>W.heap.size≤g∧g≠W.heap.size) ⟨4,t.text,l,⟨0,0,[],[],[]⟩,[],[]⟩ [.int .i64 4,.string (mkB t.text),.slice an l.length cn,.int .i64 0,.int .i64 0,.string ⟨#[]⟩,.slice none 0 0,.slice none 0 0,.slice none 0 0,.slice none 0 0]:=sm_of (R:=W.heap.size) (k:=4) (t:=t.text) (ns:=l) (ExA.leaf 0 0 []) (row_mono J7.nr (Nat.zero_le _)) (fun g hg=>by have:=(J7.nr.lt g hg).1;omega) (VL.nil _ _) (VL.nil _ _)
   obtain⟨t2,i2,o2,l2,j2⟩:=fin10 J7.r rfl hsm
   have HZ:Hid (PoA P T (VS W.heap.size) W _ (.returned (.agg (([.int .i64 4,.string (mkB t.text),.slice an l.length cn,.int .i64 0,.int .i64 0,.string ⟨#[]⟩,.slice none 0 0,.slice none 0 0,.slice none 0 0,.slice none 0 0]:List Value)).toArray)) (w7.setCells W.heap.size 0 [.int .i64 4,.string (mkB t.text),.slice an l.length cn,.int .i64 0,.int .i64 0,.string ⟨#[]⟩,.slice none 0 0,.slice none 0 0,.slice none 0 0,.slice none 0 0])):=poS_fin (Nat.le_refl _) hsm (fun g hg=>hg) J7.ps J7.kp hPl hTl
   have HG:Hid _:=(⟨J7.sV.2.1,j2,t2,i2,o2,l2⟩:_∧_∧_∧_∧_∧_)
   clear t2 i2 o2 l2 j2 hsm J7 J6 hj7 h7 HT hp6 hx hj
   go_wp2_with (first
    |(refine wpList_load_mid rfl 164 (Operand.tmp 3) rfl Lb 0 rfl _ _ HG.out.1 Tryz.underlying164 rfl HG.out.2.1 ?_)
    |(refine wpList_store_mid rfl 164 (Operand.tmp 2) (Operand.tmp 48) rfl W.heap.size 0 _ rfl rfl HG.out.2.2.1 HG.out.2.2.2.1 HG.out.2.2.2.2.1 ?_)
    |fail)
   refine bodyPost_ret (v:= .agg _) (res_one Tryz.results255 _ _ rfl HG.out.2.2.2.2.2) rfl HZ.out
  |false=>
   by_cases hl0:l.length=0
   ·obtain rfl:l=[]:=List.length_eq_zero_iff.1 hl0
    replace c2:wr.cell? ⟨Lb,2,none⟩=some (.slice an 0 cn):=c2
    have J6:=J
    obtain⟨w6,hw6⟩:∃ w6,w6=wr:=⟨_,rfl⟩
    rw[←hw6]at J6
    subst hw6
    clear J
    go_wp2_with fail
    obtain⟨hn1,hcs⟩:=ldL_step hj hc
    have htk6:=J6.ps.tk
    have hps6:=J6.ps
    have HJ6:Hid (LdJ P T (Lb+1) Lb t W w6 ([]:List (List UInt8)) p' (.slice an ([]:List (List UInt8)).length cn)):=J6
    clear J6 hj hc c2
    rcases hcs with⟨x,hx,rfl⟩|⟨q1,hx,hcs⟩
    ·have HT:=takeSign_any hps6 [44] hx
     go_wp2_with fail
     refine HT.mono ?_
     rintro e7 w7 hpo
     obtain⟨rfl,hk7⟩:=bad_panic hpo HJ6.out.kp
     exact⟨rfl,rfl,hk7⟩
    have HT:=takeSign_any hps6 [44] hx
    go_wp2_with fail
    refine HT.mono ?_
    rintro e7 w7 ⟨v7,rfl,rfl,h7,hj7⟩
    have J7:=HJ6.out.up hj7 h7 (by omega) (by omega) (by omega)
    have HN:=next_any h7
    have hr7:ErrR w7:=HEr.out _ J7.kp
    have HJ7:Hid (LdJ P T (Lb+1) Lb t W w7 ([]:List (List UInt8)) q1 (.slice an ([]:List (List UInt8)).length cn)):=J7
    clear HT hps6 hx HJ6 hj7 J7
    have HI:Hid (∀ W',Below w7.heap.size w7 W'→Calls Tryz.prog 290 #[.string (mkB q1.nx.text)] W' fun e w'=>e= .returned (.bool (isNmL q1.nx.text))∧Below W'.heap.size W' w'):=fun W' hb=>isName_any _ W' (hr7.up hb)
    have HP7:Hid (∀ W',Below w7.heap.size w7 W'→PsA P T W' q1):=fun W' hb=>h7.up hb
    clear hr7
    rcases hcs with⟨hm,rfl⟩|⟨hm,hcs⟩
    ·rw[hm]at HI
     go_wp2_with fail
     refine HN.mono ?_
     rintro e8 w8 ⟨rfl,hb8⟩
     have HI8:=HI.out w8 hb8
     go_wp2_with fail
     refine HI8.mono ?_
     rintro e9 w9 ⟨rfl,hb9⟩
     have hb:=hb8.trans (hb9.mono hb8.size)
     have HG:=giveUpIf_any (HP7.out w9 hb) true 1
     clear HI8 HI HN
     go_wp2_with fail
     refine HG.mono ?_
     rintro eA wA ⟨rfl,hbA⟩
     exact⟨rfl,rfl,(HJ7.out.kp.trans (KP.of_below hb)).trans (KP.of_below hbA)⟩
    rw[hm]at HI
    go_wp2_with fail
    refine HN.mono ?_
    rintro e8 w8 ⟨rfl,hb8⟩
    have HI8:=HI.out w8 hb8
    go_wp2_with fail
    refine HI8.mono ?_
    rintro e9 w9 ⟨rfl,hb9⟩
    have hb:=hb8.trans (hb9.mono hb8.size)
    have HG:=giveUpIf_any (HP7.out w9 hb) false 1
    clear HI8 HI HN
    go_wp2_with fail
    refine HG.mono ?_
    rintro eA wA ⟨rfl,hbA⟩
    have hB:Below w7.heap.size w7 wA:=hb.trans (hbA.mono hb.size)
    have JA:=HJ7.out.up (KP.of_below hB) (HP7.out wA hB) (by omega) (by omega) (by omega)
    have HJA:Hid (LdJ P T (Lb+1) Lb t W wA ([]:List (List UInt8)) q1 (.slice an ([]:List (List UInt8)).length cn)):=JA
    have hnm:∀ W',KP P wA W'→W'.cell? ⟨Lb,2,none⟩=some (.slice an ([]:List (List UInt8)).length cn)∧W'.frozen? ⟨Lb,2,none⟩=false∧W'.ownsRow (Lb+1) 9 1 (.slice an ([]:List (List UInt8)).length cn) ([]:List (List UInt8)).length (([]:List (List UInt8)).map sv)∧True:=fun W' hk=>by
     have s2:=HJA.out.sV.keep (hk.blk _ HJA.out.sV.lt (by omega))
     exact⟨s2.at_ 2 rfl,s2.fz 2,own_heap HJA.out.nr fun g hg=>hk.blk g (HJA.out.nr.lt g hg).2 (by have:=(HJA.out.nr.lt g hg).1;omega),trivial⟩
    clear hB hb hb8 hb9 hbA HG HP7 HJ7 h7
    go_wp2
    rw[HR1.out]
    rcases hcs with⟨x,hx,rfl⟩|⟨u,q,hx,hle,hj2⟩
    ·refine nr_lo JA.lo (by omega) JA.nn JA.ps hnm (by omega) hx _ (fun _ _ _ _ hd h=>⟨hd.symm.trans h.1,h.2⟩) ?_ ?_
     ·intro x9 a w' hd9 e9 hk
      cases e9
      exact⟨hd9,rfl,HJA.out.kp.trans hk⟩
     ·intro u38 u39 u40 u41 u42 u43 u44 u45 t' q' X w2 g' cap' e9
      cases e9
    refine nr_lo JA.lo (by omega) JA.nn JA.ps hnm (by omega) hx _ (fun _ _ _ _ hd h=>⟨hd.symm.trans h.1,h.2⟩) ?_ ?_
    ·intro x9 a w' hd9 e9 hk
     cases e9
    intro u38 u39 u40 u41 u42 u43 u44 u45 t' q' X w2 g' cap' e9 hkX hpX hrX hgrow hat hown2
    cases e9
    have svX:=HJA.out.sV.keep (hkX.blk _ HJA.out.sV.lt (by omega))
    have hLX:=svX.lt
    have hloX:Lb+1≤X.heap.size:=Nat.le_trans HJA.out.lo hkX.size
    have hgL:g'≠Lb:=by
     rcases hat with h1|h1
     ·exact fun e=>HJA.out.nn (e▸h1)
     ·omega
    have hg3:∀ g,g<X.heap.size→(Value.slice an ([]:List (List UInt8)).length cn).ownBlock≠some g→g≠Lb→(w2.setCell ⟨Lb,2,none⟩ (.slice (some ⟨g',0,none⟩) (([]:List (List UInt8)).length+1) cap')).heap[g]? =X.heap[g]? :=fun g h1 h2 h3=>(Below.heap_setCell _ ⟨Lb,2,none⟩ _ g h3).trans (hgrow.block g h1 fun e=>h2 e.symm)
    have hnl:∀ g,g<Lb+1→(Value.slice an ([]:List (List UInt8)).length cn).ownBlock≠some g:=fun g hg e=>by have:=(hrX.lt _ e).1;omega
    have sv2:=(svX.keep (hgrow.block Lb hLX (fun e=>HJA.out.nn e.symm))).set 2 (.slice (some ⟨g',0,none⟩) (([]:List (List UInt8)).length+1) cap')
    simp only[List.set_cons_zero,List.set_cons_succ]at sv2
    have hW:=HJA.out.kp.size
    have hLA:=HJA.out.sV.lt
    have JN:LdJ P T (Lb+1) Lb t W (w2.setCell ⟨Lb,2,none⟩ (.slice (some ⟨g',0,none⟩) (([]:List (List UInt8)).length+1) cap')) (([]:List (List UInt8))++[u.text]) q (.slice (some ⟨g',0,none⟩) (([]:List (List UInt8)).length+1) cap'):=by
     refine⟨hpX.keep (hg3 P (by have:=hpX.lt;omega) (hnl P (by omega)) (by omega)) (hg3 T (by have:=hpX.ltT;omega) (hnl T (by omega)) (by omega)),⟨hgrow.os.trans (hkX.os.trans HJA.out.kp.os),hgrow.tape.trans (hkX.tape.trans HJA.out.kp.tape),hgrow.output.trans (hkX.output.trans HJA.out.kp.output),by rw[size_set];exact Nat.le_trans (HJA.out.kp.trans hkX).size hgrow.size,fun g h1 h2=>(hg3 g (by have:=hkX.size;omega) (hnl g (by omega)) (by omega)).trans ((HJA.out.kp.trans hkX).blk g h1 h2)⟩,(hg3 _ (by have:=hkX.size;omega) (hnl _ (by omega)) (by omega)).trans (hkX.heapEq HJA.out.r (by omega)),sv2,by simpa using own_heap hown2 (fun g hg=>Below.heap_setCell _ ⟨Lb,2,none⟩ _ g (fun e=>hgL ((ob_eq hg).trans e))),fun e=>hgL (ob_eq e),by rw[size_set];exact Nat.le_trans hloX hgrow.size⟩
    have htkN:=JN.ps.tk
    have HJN:Hid (LdI P T (Lb+1) Lb t W z (w2.setCell ⟨Lb,2,none⟩ (.slice (some ⟨g',0,none⟩) (([]:List (List UInt8)).length+1) cap'))):=⟨_,q,f,_,hj2,JN⟩
    have hle2:q.toks.length<p'.toks.length:=of_decide_eq_true hle
    clear JN sv2 hnl hg3 hgL svX hkX hpX hrX hgrow hat hown2 JA hnm
    go_wp2
    exact⟨⟨_,_,_,_,_,_,_,_,_,_,_,_,_,_,_,_,_,_,_,_,_,_,_,_,_,_,_,HJN,rfl⟩,by rw[htkN,htk];exact hle2⟩
   ·have hi:¬(l.length:Int)=0:=by omega
    have hi2:¬l=[]:=fun e=>hl0 (by rw[e];rfl)
    have hse:p'.sees [[41]]=false:=by
     cases h9:p'.sees [[41]]with
     |false=>rfl
     |true=>rw[h9,Bool.and_true,decide_eq_false_iff_not]at hc;omega
    have HS:=seesW J.ps [41]
    rw[hse]at HS
    go_wp2_with fail
    refine HS.mono ?_
    rintro e6 w6 ⟨rfl,hk6,hp6⟩
    have J6:=J.up hk6 hp6 (by omega) (by omega) (by omega)
    clear J HS hk6 hse hp6
    obtain⟨hn1,hcs⟩:=ldL_step hj hc
    have htk6:=J6.ps.tk
    have hps6:=J6.ps
    have HJ6:Hid (LdJ P T (Lb+1) Lb t W w6 l p' (.slice an l.length cn)):=J6
    clear J6 hj hc c2
    rcases hcs with⟨x,hx,rfl⟩|⟨q1,hx,hcs⟩
    ·have HT:=takeSign_any hps6 [44] hx
     go_wp2_with fail
     refine HT.mono ?_
     rintro e7 w7 hpo
     obtain⟨rfl,hk7⟩:=bad_panic hpo HJ6.out.kp
     exact⟨rfl,rfl,hk7⟩
    have HT:=takeSign_any hps6 [44] hx
    go_wp2_with fail
    refine HT.mono ?_
    rintro e7 w7 ⟨v7,rfl,rfl,h7,hj7⟩
    have J7:=HJ6.out.up hj7 h7 (by omega) (by omega) (by omega)
    have HN:=next_any h7
    have hr7:ErrR w7:=HEr.out _ J7.kp
    have HJ7:Hid (LdJ P T (Lb+1) Lb t W w7 l q1 (.slice an l.length cn)):=J7
    clear HT hps6 hx HJ6 hj7 J7
    have HI:Hid (∀ W',Below w7.heap.size w7 W'→Calls Tryz.prog 290 #[.string (mkB q1.nx.text)] W' fun e w'=>e= .returned (.bool (isNmL q1.nx.text))∧Below W'.heap.size W' w'):=fun W' hb=>isName_any _ W' (hr7.up hb)
    have HP7:Hid (∀ W',Below w7.heap.size w7 W'→PsA P T W' q1):=fun W' hb=>h7.up hb
    clear hr7
    rcases hcs with⟨hm,rfl⟩|⟨hm,hcs⟩
    ·rw[hm]at HI
     go_wp2_with fail
     refine HN.mono ?_
     rintro e8 w8 ⟨rfl,hb8⟩
     have HI8:=HI.out w8 hb8
     go_wp2_with fail
     refine HI8.mono ?_
     rintro e9 w9 ⟨rfl,hb9⟩
     have hb:=hb8.trans (hb9.mono hb8.size)
     have HG:=giveUpIf_any (HP7.out w9 hb) true 1
     clear HI8 HI HN
     go_wp2_with fail
     refine HG.mono ?_
     rintro eA wA ⟨rfl,hbA⟩
     exact⟨rfl,rfl,(HJ7.out.kp.trans (KP.of_below hb)).trans (KP.of_below hbA)⟩
    rw[hm]at HI
    go_wp2_with fail
    refine HN.mono ?_
    rintro e8 w8 ⟨rfl,hb8⟩
    have HI8:=HI.out w8 hb8
    go_wp2_with fail
    refine HI8.mono ?_
    rintro e9 w9 ⟨rfl,hb9⟩
    have hb:=hb8.trans (hb9.mono hb8.size)
    have HG:=giveUpIf_any (HP7.out w9 hb) false 1
    clear HI8 HI HN
    go_wp2_with fail
    refine HG.mono ?_
    rintro eA wA ⟨rfl,hbA⟩
    have hB:Below w7.heap.size w7 wA:=hb.trans (hbA.mono hb.size)
    have JA:=HJ7.out.up (KP.of_below hB) (HP7.out wA hB) (by omega) (by omega) (by omega)
    have HJA:Hid (LdJ P T (Lb+1) Lb t W wA l q1 (.slice an l.length cn)):=JA
    have hnm:∀ W',KP P wA W'→W'.cell? ⟨Lb,2,none⟩=some (.slice an l.length cn)∧W'.frozen? ⟨Lb,2,none⟩=false∧W'.ownsRow (Lb+1) 9 1 (.slice an l.length cn) l.length (l.map sv)∧True:=fun W' hk=>by
     have s2:=HJA.out.sV.keep (hk.blk _ HJA.out.sV.lt (by omega))
     exact⟨s2.at_ 2 rfl,s2.fz 2,own_heap HJA.out.nr fun g hg=>hk.blk g (HJA.out.nr.lt g hg).2 (by have:=(HJA.out.nr.lt g hg).1;omega),trivial⟩
    clear hB hb hb8 hb9 hbA HG HP7 HJ7 h7
    go_wp2
    rw[HR1.out]
    rcases hcs with⟨x,hx,rfl⟩|⟨u,q,hx,hle,hj2⟩
    ·refine nr_lo JA.lo (by omega) JA.nn JA.ps hnm (by omega) hx _ (fun _ _ _ _ hd h=>⟨hd.symm.trans h.1,h.2⟩) ?_ ?_
     ·intro x9 a w' hd9 e9 hk
      cases e9
      exact⟨hd9,rfl,HJA.out.kp.trans hk⟩
     ·intro u38 u39 u40 u41 u42 u43 u44 u45 t' q' X w2 g' cap' e9
      cases e9
    refine nr_lo JA.lo (by omega) JA.nn JA.ps hnm (by omega) hx _ (fun _ _ _ _ hd h=>⟨hd.symm.trans h.1,h.2⟩) ?_ ?_
    ·intro x9 a w' hd9 e9 hk
     cases e9
    intro u38 u39 u40 u41 u42 u43 u44 u45 t' q' X w2 g' cap' e9 hkX hpX hrX hgrow hat hown2
    cases e9
    have svX:=HJA.out.sV.keep (hkX.blk _ HJA.out.sV.lt (by omega))
    have hLX:=svX.lt
    have hloX:Lb+1≤X.heap.size:=Nat.le_trans HJA.out.lo hkX.size
    have hgL:g'≠Lb:=by
     rcases hat with h1|h1
     ·exact fun e=>HJA.out.nn (e▸h1)
     ·omega
    have hg3:∀ g,g<X.heap.size→(Value.slice an l.length cn).ownBlock≠some g→g≠Lb→(w2.setCell ⟨Lb,2,none⟩ (.slice (some ⟨g',0,none⟩) (l.length+1) cap')).heap[g]? =X.heap[g]? :=fun g h1 h2 h3=>(Below.heap_setCell _ ⟨Lb,2,none⟩ _ g h3).trans (hgrow.block g h1 fun e=>h2 e.symm)
    have hnl:∀ g,g<Lb+1→(Value.slice an l.length cn).ownBlock≠some g:=fun g hg e=>by have:=(hrX.lt _ e).1;omega
    have sv2:=(svX.keep (hgrow.block Lb hLX (fun e=>HJA.out.nn e.symm))).set 2 (.slice (some ⟨g',0,none⟩) (l.length+1) cap')
    simp only[List.set_cons_zero,List.set_cons_succ]at sv2
    have hW:=HJA.out.kp.size
    have hLA:=HJA.out.sV.lt
    have JN:LdJ P T (Lb+1) Lb t W (w2.setCell ⟨Lb,2,none⟩ (.slice (some ⟨g',0,none⟩) (l.length+1) cap')) (l++[u.text]) q (.slice (some ⟨g',0,none⟩) (l.length+1) cap'):=by
     refine⟨hpX.keep (hg3 P (by have:=hpX.lt;omega) (hnl P (by omega)) (by omega)) (hg3 T (by have:=hpX.ltT;omega) (hnl T (by omega)) (by omega)),⟨hgrow.os.trans (hkX.os.trans HJA.out.kp.os),hgrow.tape.trans (hkX.tape.trans HJA.out.kp.tape),hgrow.output.trans (hkX.output.trans HJA.out.kp.output),by rw[size_set];exact Nat.le_trans (HJA.out.kp.trans hkX).size hgrow.size,fun g h1 h2=>(hg3 g (by have:=hkX.size;omega) (hnl g (by omega)) (by omega)).trans ((HJA.out.kp.trans hkX).blk g h1 h2)⟩,(hg3 _ (by have:=hkX.size;omega) (hnl _ (by omega)) (by omega)).trans (hkX.heapEq HJA.out.r (by omega)),sv2,by simpa using own_heap hown2 (fun g hg=>Below.heap_setCell _ ⟨Lb,2,none⟩ _ g (fun e=>hgL ((ob_eq hg).trans e))),fun e=>hgL (ob_eq e),by rw[size_set];exact Nat.le_trans hloX hgrow.size⟩
    have htkN:=JN.ps.tk
    have HJN:Hid (LdI P T (Lb+1) Lb t W z (w2.setCell ⟨Lb,2,none⟩ (.slice (some ⟨g',0,none⟩) (l.length+1) cap'))):=⟨_,q,f,_,hj2,JN⟩
    have hle2:q.toks.length<p'.toks.length:=of_decide_eq_true hle
    clear JN sv2 hnl hg3 hgL svX hkX hpX hrX hgrow hat hown2 JA hnm
    go_wp2
    exact⟨⟨_,_,_,_,_,_,_,_,_,_,_,_,_,_,_,_,_,_,_,_,_,_,_,_,_,_,_,HJN,rfl⟩,by rw[htkN,htk];exact hle2⟩
end Go.Proofs.YthfgpkdbclogpaaGreatDoor
