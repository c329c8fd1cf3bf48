/- 6. -/
import Derived.Test.YthfgpkdbclogpaaGreatDoorTx5
set_option maxHeartbeats 40000000
set_option maxRecDepth 100000
namespace Go.Proofs.YthfgpkdbclogpaaGreatDoor
open Go.RowKit Go.Shelf
def OnlyP (P:Nat)(w w':World):Prop:=∀ g:Nat,g<w.heap.size→g≠P→w'.heap[g]? =w.heap[g]?
def esc (d:Nat):Option Nat:=if d=110 then some 10 else if d=116 then some 9 else if d=92 then some 92 else if d=34 then some 34 else none
theorem escaped_yes {B P:Nat}{L:List UInt8}{tv iv:Value}{w:World}{p:Sp}(h:TS B P L tv iv w p)(hL:L.length≤6000)(hp:p.pos<L.length)(x:Nat)(hx:esc (L.getD p.pos 0).toNat=some x):
  Calls Tryz.prog 296 #[.pointer (some ⟨P,0,none⟩)] w fun e w'=>e= .returned (.int .u8 x)∧TS B P L tv iv w' {p with pos:=p.pos+1}∧Below B w w'∧∀ g:Nat,g≠P→w'.heap[g]? =w.heap[g]? :=by
 have HSe:Hid (∀ n (c:Nat),c≠0→Calls Tryz.prog 238 #[.pointer (some ⟨P,0,none⟩),.int .u8 c] (w.drewN n) fun e w'=>e= .returned (.bool (decide ((L.getD p.pos 0).toNat=c)))∧Dr w w'):=fun n c hc=>(sees_any (h.drewN n) (by omega) c hc).mono fun e w' ⟨a,m,b⟩=>⟨a,by rw[b];exact Dr.drewN ⟨n,rfl⟩ m⟩
 have HSP:Hid (∀ n w',(∀ g:Nat,w'.heap[g]? =((w.drewN n).setCell ⟨P,1,none⟩ (.int .i64 ((p.pos+1:Nat):Int))).heap[g]?)→TS B P L tv iv w' {p with pos:=p.pos+1}):=fun n w' hw=>(h.drewN n).setPos _ hw
 have c0:=h.c0
 have c1:=h.c1
 have f1:=h.fz 1
 have hsz:=mk_size L
 have hs0:p.pos<(mkB L).size:=by rw[hsz];exact hp
 have hg:=mk_get L p.pos hs0
 have HPB:Hid (B≤P):=h.hB
 have hpi:(p.pos:Int)<(L.length:Int):=by omega
 have hli:(L.length:Int)≤6000:=by omega
 obtain⟨y,hy⟩:∃ y,y=p.pos+1:=⟨_,rfl⟩
 rw[←hy]at HSP
 rw[←hy]
 have hp1:(p.pos:Int)+1=(y:Int):=by omega
 have hwr:IntKind.i64.wrap (y:Int)=(y:Int):=by rw[IntKind.wrap_i64];omega
 generalize hd:(L.getD p.pos 0).toNat=d at *
 have hgd:((mkB L)[p.pos].toNat:Int)=(d:Int):=by rw[hg,hd]
 unfold esc at hx
 have hend:∀ (m:Nat),TS B P L tv iv ((w.drewN m).setCell ⟨P,1,none⟩ (.int .i64 (y:Int))) {p with pos:=y}∧Below B w ((w.drewN m).setCell ⟨P,1,none⟩ (.int .i64 (y:Int)))∧∀ g:Nat,g≠P→((w.drewN m).setCell ⟨P,1,none⟩ (.int .i64 (y:Int))).heap[g]? =w.heap[g]? :=fun m=>⟨HSP.out m _ (fun g=>rfl),(below_drewN (Below.refl B w) m).setCell (p:=⟨P,1,none⟩) HPB.out _,fun g hg=>Below.heap_setCell (w.drewN m) ⟨P,1,none⟩ _ g hg⟩
 have HEN:Hid (∀ (m:Nat),TS B P L tv iv ((w.drewN m).setCell ⟨P,1,none⟩ (.int .i64 (y:Int))) {p with pos:=y}∧Below B w ((w.drewN m).setCell ⟨P,1,none⟩ (.int .i64 (y:Int)))∧∀ g:Nat,g≠P→((w.drewN m).setCell ⟨P,1,none⟩ (.int .i64 (y:Int))).heap[g]? =w.heap[g]?):=hend
 clear h hend HSP hg hd hy
 by_cases h1:d=110
 ·rw[if_pos h1]at hx
  obtain rfl:10=x:=Option.some.inj hx
  have A:Hid (∀ n,Calls Tryz.prog 238 #[.pointer (some ⟨P,0,none⟩),.int .u8 110] (w.drewN n) fun e w'=>e= .returned (.bool true)∧Dr w w'):=fun n=>by
   have h9:=HSe.out n 110 (by decide)
   rwa [show decide (d=110)=true from by simpa using h1]at h9
  clear hx h1 HSe
  go_enter Tryz.func296,Tryz.ntmps296
  go_wp2_with fail
  refine(A.out 0).mono ?_
  rintro e w' ⟨rfl,nA,rfl⟩
  go_wp2
  go_ret
  exact⟨rfl,(HEN.out nA).1,(HEN.out nA).2.1,(HEN.out nA).2.2⟩
 ·rw[if_neg h1]at hx
  have A:Hid (∀ n,Calls Tryz.prog 238 #[.pointer (some ⟨P,0,none⟩),.int .u8 110] (w.drewN n) fun e w'=>e= .returned (.bool false)∧Dr w w'):=fun n=>by
   have h9:=HSe.out n 110 (by decide)
   rwa [show decide (d=110)=false from by simpa using h1]at h9
  by_cases h2:d=116
  ·rw[if_pos h2]at hx
   obtain rfl:9=x:=Option.some.inj hx
   have C:Hid (∀ n,Calls Tryz.prog 238 #[.pointer (some ⟨P,0,none⟩),.int .u8 116] (w.drewN n) fun e w'=>e= .returned (.bool true)∧Dr w w'):=fun n=>by
    have h9:=HSe.out n 116 (by decide)
    rwa [show decide (d=116)=true from by simpa using h2]at h9
   clear hx h1 h2 HSe
   go_enter Tryz.func296,Tryz.ntmps296
   go_wp2_with fail
   refine(A.out 0).mono ?_
   rintro e w' ⟨rfl,nA,rfl⟩
   go_wp2_with fail
   refine(C.out nA).mono ?_
   rintro e w' ⟨rfl,nC,rfl⟩
   go_wp2
   go_ret
   exact⟨rfl,(HEN.out nC).1,(HEN.out nC).2.1,(HEN.out nC).2.2⟩
  ·rw[if_neg h2]at hx
   have C:Hid (∀ n,Calls Tryz.prog 238 #[.pointer (some ⟨P,0,none⟩),.int .u8 116] (w.drewN n) fun e w'=>e= .returned (.bool false)∧Dr w w'):=fun n=>by
    have h9:=HSe.out n 116 (by decide)
    rwa [show decide (d=116)=false from by simpa using h2]at h9
   by_cases h3:d=92
   ·rw[if_pos h3]at hx
    obtain rfl:92=x:=Option.some.inj hx
    have D:Hid (∀ n,Calls Tryz.prog 238 #[.pointer (some ⟨P,0,none⟩),.int .u8 92] (w.drewN n) fun e w'=>e= .returned (.bool true)∧Dr w w'):=fun n=>by
     have h9:=HSe.out n 92 (by decide)
     rwa [show decide (d=92)=true from by simpa using h3]at h9
    subst h3
    clear hx h1 h2 HSe
    go_enter Tryz.func296,Tryz.ntmps296
    go_wp2_with fail
    refine(A.out 0).mono ?_
    rintro e w' ⟨rfl,nA,rfl⟩
    go_wp2_with fail
    refine(C.out nA).mono ?_
    rintro e w' ⟨rfl,nC,rfl⟩
    go_wp2_with fail
    refine(D.out nC).mono ?_
    rintro e w' ⟨rfl,nD,rfl⟩
    go_wp2
    go_quiet (fail)
    go_wp2
    go_ret
    exact⟨rfl,(HEN.out _).1,(HEN.out _).2.1,(HEN.out _).2.2⟩
   ·rw[if_neg h3]at hx
    have D:Hid (∀ n,Calls Tryz.prog 238 #[.pointer (some ⟨P,0,none⟩),.int .u8 92] (w.drewN n) fun e w'=>e= .returned (.bool false)∧Dr w w'):=fun n=>by
     have h9:=HSe.out n 92 (by decide)
     rwa [show decide (d=92)=false from by simpa using h3]at h9
    by_cases h4:d=34
    ·rw[if_pos h4]at hx
     obtain rfl:34=x:=Option.some.inj hx
     have E:Hid (∀ n,Calls Tryz.prog 238 #[.pointer (some ⟨P,0,none⟩),.int .u8 34] (w.drewN n) fun e w'=>e= .returned (.bool true)∧Dr w w'):=fun n=>by
      have h9:=HSe.out n 34 (by decide)
      rwa [show decide (d=34)=true from by simpa using h4]at h9
     subst h4
     clear hx h1 h2 h3 HSe
     go_enter Tryz.func296,Tryz.ntmps296
     go_wp2_with fail
     refine(A.out 0).mono ?_
     rintro e w' ⟨rfl,nA,rfl⟩
     go_wp2_with fail
     refine(C.out nA).mono ?_
     rintro e w' ⟨rfl,nC,rfl⟩
     go_wp2_with fail
     refine(D.out nC).mono ?_
     rintro e w' ⟨rfl,nD,rfl⟩
     go_wp2_with fail
     refine(E.out nD).mono ?_
     rintro e w' ⟨rfl,nE,rfl⟩
     go_wp2
     go_quiet (fail)
     go_wp2
     go_ret
     exact⟨rfl,(HEN.out _).1,(HEN.out _).2.1,(HEN.out _).2.2⟩
    ·rw[if_neg h4]at hx
     cases hx
theorem escaped_no {B P:Nat}{L:List UInt8}{tv iv:Value}{w:World}{p:Sp}(h:TS B P L tv iv w p)(hp:p.pos≤L.length)(hx:esc (L.getD p.pos 0).toNat=none):
  Calls Tryz.prog 296 #[.pointer (some ⟨P,0,none⟩)] w fun e w'=>e=PF 1 p.pos∧∃ n,w'=w.drewN n:=by
 have HSe:Hid (∀ n (c:Nat),c≠0→Calls Tryz.prog 238 #[.pointer (some ⟨P,0,none⟩),.int .u8 c] (w.drewN n) fun e w'=>e= .returned (.bool (decide ((L.getD p.pos 0).toNat=c)))∧Dr w w'):=fun n c hc=>(sees_any (h.drewN n) hp c hc).mono fun e w' ⟨a,m,b⟩=>⟨a,by rw[b];exact Dr.drewN ⟨n,rfl⟩ m⟩
 have HGu:Hid (∀ n,Calls Tryz.prog 242 #[.pointer (some ⟨P,0,none⟩),.int .i64 1] (w.drewN n) fun e w'=>e=PF 1 p.pos∧w'=w.drewN n):=fun n=>giveUp_any (h.drewN n) 1
 generalize(L.getD p.pos 0).toNat=d at *
 unfold esc at hx
 have h1:¬d=110:=fun e=>by rw[if_pos e]at hx;cases hx
 rw[if_neg h1]at hx
 have h2:¬d=116:=fun e=>by rw[if_pos e]at hx;cases hx
 rw[if_neg h2]at hx
 have h3:¬d=92:=fun e=>by rw[if_pos e]at hx;cases hx
 rw[if_neg h3]at hx
 have h4:¬d=34:=fun e=>by rw[if_pos e]at hx;cases hx
 have A:Hid (∀ n,Calls Tryz.prog 238 #[.pointer (some ⟨P,0,none⟩),.int .u8 110] (w.drewN n) fun e w'=>e= .returned (.bool false)∧Dr w w'):=fun n=>by
  have h9:=HSe.out n 110 (by decide)
  rwa [show decide (d=110)=false from by simpa using h1]at h9
 have C:Hid (∀ n,Calls Tryz.prog 238 #[.pointer (some ⟨P,0,none⟩),.int .u8 116] (w.drewN n) fun e w'=>e= .returned (.bool false)∧Dr w w'):=fun n=>by
  have h9:=HSe.out n 116 (by decide)
  rwa [show decide (d=116)=false from by simpa using h2]at h9
 have D:Hid (∀ n,Calls Tryz.prog 238 #[.pointer (some ⟨P,0,none⟩),.int .u8 92] (w.drewN n) fun e w'=>e= .returned (.bool false)∧Dr w w'):=fun n=>by
  have h9:=HSe.out n 92 (by decide)
  rwa [show decide (d=92)=false from by simpa using h3]at h9
 have E:Hid (∀ n,Calls Tryz.prog 238 #[.pointer (some ⟨P,0,none⟩),.int .u8 34] (w.drewN n) fun e w'=>e= .returned (.bool false)∧Dr w w'):=fun n=>by
  have h9:=HSe.out n 34 (by decide)
  rwa [show decide (d=34)=false from by simpa using h4]at h9
 clear hx h1 h2 h3 h4 HSe h
 go_enter Tryz.func296,Tryz.ntmps296
 go_wp2_with fail
 refine(A.out 0).mono ?_
 rintro e w' ⟨rfl,nA,rfl⟩
 go_wp2_with fail
 refine(C.out nA).mono ?_
 rintro e w' ⟨rfl,nC,rfl⟩
 go_wp2_with fail
 refine(D.out nC).mono ?_
 rintro e w' ⟨rfl,nD,rfl⟩
 go_wp2_with fail
 refine(E.out nD).mono ?_
 rintro e w' ⟨rfl,nE,rfl⟩
 go_wp2_with fail
 refine(HGu.out nE).mono ?_
 rintro e w' ⟨rfl,rfl⟩
 go_wp2
 exact⟨rfl,rfl,nE,rfl⟩
theorem escaped_no' {B P:Nat}{L:List UInt8}{tv iv:Value}{w:World}{p:Sp}(h:TS B P L tv iv w p)(hp:p.pos≤L.length)(hx:esc (L.getD p.pos 0).toNat=none):
  Calls Tryz.prog 296 #[.pointer (some ⟨P,0,none⟩)] w fun e w'=>e=PF 1 p.pos∧Below B w w'∧∀ g:Nat,g≠P→w'.heap[g]? =w.heap[g]? :=(escaped_no h hp hx).mono fun _ _ ⟨a,n,b⟩=>⟨a,by rw[b];exact below_drewN (Below.refl _ _) n,by rw[b];exact fun _ _=>rfl⟩
theorem bd_keep {B b:Nat}{bs:List Value}{w w':World}(h:BdIs B b bs w)(hh:∀ g:Nat,B≤g→w'.heap[g]? =w.heap[g]?):BdIs B b bs w':=by
 rcases h with⟨hB,v,hbk,hown,hne⟩|⟨hB,v,hbk,hown,hne⟩
 ·exact Or.inl ⟨hB,v,(hh b hB).trans hbk,own_heap hown fun g hg=>hh g (hown.lt g hg).1,hne⟩
 ·exact Or.inr ⟨hB,v,(hh b hB).trans hbk,own_heap hown fun g hg=>hh g (hown.lt g hg).1,hne⟩
theorem stL_both (B b:Nat)(l:List UInt8)(w:World)(h:BdIs B b (Lib.byteCells l) w)(hBw:B≤w.heap.size):
  Calls Tryz.prog 83 #[.pointer (some ⟨b,0,none⟩)] w fun e w'=>e= .returned (.string (mkB l))∧Below B w w':=by
 by_cases h0:l=[]
 ·subst h0
  exact stL_zero B b w h hBw
 ·exact stL_any B b l w h h0
theorem TS.keep2 {B P:Nat}{L:List UInt8}{tv iv:Value}{w:World}{p:Sp}(h:TS B P L tv iv w p){C:Nat}(hP:P<C)(ht:∀ g,tv.ownBlock=some g→g<C)(hi:∀ g,iv.ownBlock=some g→g<C){w':World}(hh:∀ g:Nat,g<C→w'.heap[g]? =w.heap[g]?):TS B P L tv iv w' p:=
 ⟨h.hB,(hh P hP).trans h.blk,own_heap h.ot fun g hg=>hh g (ht g hg),own_heap h.oi fun g hg=>hh g (hi g hg),h.nt,h.ni,h.nn⟩
def TxtP (B P:Nat)(L:List UInt8)(tv iv:Value)(w:World)(p:Sp)(r:Except Nat (List UInt8×Nat))(e:Ending)(w':World):Prop:=
 (∀ y,r= .error y→e=PF 1 y)∧(∀ t y,r= .ok (t,y)→e= .returned (.string (mkB t))∧TS B P L tv iv w' {p with pos:=y}∧y≤L.length)∧Below B w w'∧OnlyP P w w'
theorem txt_more:∀ (f g:Nat) (r said:List UInt8) (x:Nat),r.length<f→r.length<g→txt f r said x=txt g r said x:=by
 intro f
 induction f with
 |zero=>intro g r said x h;omega
 |succ f ih=>
  intro g r said x h1 h2
  cases g with
  |zero=>omega
  |succ g=>
   unfold txt
   by_cases h0:r=[]
   ·simp only[if_pos h0]
   ·have hl:0<r.length:=List.length_pos_iff.2 h0
    simp only[if_neg h0]
    by_cases c1:(r.getD 0 0).toNat=34
    ·simp only[if_pos c1]
    ·simp only[if_neg c1]
     have hd2:(r.drop 2).length<f∧(r.drop 2).length<g:=by rw[List.length_drop];omega
     by_cases c2:(r.getD 0 0).toNat=92
     ·simp only[if_pos c2]
      rw[ih g (r.drop 2) _ _ hd2.1 hd2.2,ih g (r.drop 2) _ _ hd2.1 hd2.2,ih g (r.drop 2) _ _ hd2.1 hd2.2]
     ·simp only[if_neg c2]
      by_cases c3:rch isPl r=0
      ·simp only[if_pos c3]
      ·simp only[if_neg c3]
       exact ih g _ _ _ (by rw[List.length_drop];omega) (by rw[List.length_drop];omega)
theorem drop_nil {L:List UInt8}{x:Nat}(h:L.drop x=[]):L.getD x 0=0:=by
 rw[←at_drop,h]
 rfl
theorem txt_quote (f:Nat)(L said:List UInt8)(x:Nat)(h:(L.getD x 0).toNat=34):txt (f+1) (L.drop x) said x= .ok (said,x+1):=by
 unfold txt
 have h0:L.drop x≠[]:=fun e=>by rw[drop_nil e]at h;cases h
 simp only[if_neg h0,at_drop,if_pos h]
theorem txt_esc (f:Nat)(L said:List UInt8)(x y:Nat)(h:(L.getD x 0).toNat=92)(he:esc (L.getD (x+1) 0).toNat=some y):txt (f+1) (L.drop x) said x=txt f (L.drop (x+2)) (said++[UInt8.ofNat y]) (x+2):=by
 conv=>lhs;unfold txt
 have h0:L.drop x≠[]:=fun e=>by rw[drop_nil e]at h;cases h
 have hd:∀ k,(L.drop x).drop k=L.drop (x+k):=fun k=>by rw[List.drop_drop]
 simp only[if_neg h0,at_drop,hd,h,show ¬(92=34)from by decide,if_false,if_true]
 have h1:L.drop (x+1)≠[]:=fun e=>by rw[drop_nil e]at he;simp[esc]at he
 simp only[if_neg h1]
 unfold esc at he
 by_cases c1:(L.getD (x+1) 0).toNat=110
 ·rw[if_pos c1]at he
  obtain rfl:=Option.some.inj he
  rw[if_pos c1]
  rfl
 ·rw[if_neg c1]at he
  rw[if_neg c1]
  by_cases c2:(L.getD (x+1) 0).toNat=116
  ·rw[if_pos c2]at he
   obtain rfl:=Option.some.inj he
   rw[if_pos c2]
   rfl
  ·rw[if_neg c2]at he
   rw[if_neg c2]
   have e2:∀ z:Nat,(L.getD (x+1) 0).toNat=z→L.getD (x+1) 0=UInt8.ofNat z:=fun z hz=>by rw[←hz];simp
   by_cases c3:(L.getD (x+1) 0).toNat=92
   ·rw[if_pos c3]at he
    obtain rfl:=Option.some.inj he
    rw[if_pos (Or.inl c3),e2 92 c3]
   ·rw[if_neg c3]at he
    by_cases c4:(L.getD (x+1) 0).toNat=34
    ·rw[if_pos c4]at he
     obtain rfl:=Option.some.inj he
     rw[if_pos (Or.inr c4),e2 34 c4]
    ·rw[if_neg c4]at he
     cases he
theorem txt_noesc (f:Nat)(L said:List UInt8)(x:Nat)(h:(L.getD x 0).toNat=92)(he:esc (L.getD (x+1) 0).toNat=none):txt (f+1) (L.drop x) said x= .error (x+1):=by
 unfold txt
 have h0:L.drop x≠[]:=fun e=>by rw[drop_nil e]at h;cases h
 have hd:∀ k,(L.drop x).drop k=L.drop (x+k):=fun k=>by rw[List.drop_drop]
 simp only[if_neg h0,at_drop,hd,h,show ¬(92=34)from by decide,if_false,if_true]
 unfold esc at he
 have c1:¬(L.getD (x+1) 0).toNat=110:=fun e=>by rw[if_pos e]at he;cases he
 rw[if_neg c1]at he
 have c2:¬(L.getD (x+1) 0).toNat=116:=fun e=>by rw[if_pos e]at he;cases he
 rw[if_neg c2]at he
 have c3:¬(L.getD (x+1) 0).toNat=92:=fun e=>by rw[if_pos e]at he;cases he
 rw[if_neg c3]at he
 have c4:¬(L.getD (x+1) 0).toNat=34:=fun e=>by rw[if_pos e]at he;cases he
 rw[if_neg c1,if_neg c2,if_neg (show ¬((L.getD (x+1) 0).toNat=92∨(L.getD (x+1) 0).toNat=34)from fun e=>e.elim c3 c4)]
 split<;>rfl
theorem txt_stop (f:Nat)(L said:List UInt8)(x:Nat)(h1:¬(L.getD x 0).toNat=34)(h2:¬(L.getD x 0).toNat=92)(h3:rch isPl (L.drop x)=0):txt (f+1) (L.drop x) said x= .error x:=by
 unfold txt
 simp only[at_drop,if_neg h1,if_neg h2,if_pos h3]
 split<;>rfl
theorem txt_plain (f:Nat)(L said:List UInt8)(x:Nat)(h1:¬(L.getD x 0).toNat=34)(h2:¬(L.getD x 0).toNat=92)(h3:rch isPl (L.drop x)≠0):txt (f+1) (L.drop x) said x=txt f (L.drop (x+rch isPl (L.drop x))) (said++(L.drop x).take (rch isPl (L.drop x))) (x+rch isPl (L.drop x)):=by
 have h0:L.drop x≠[]:=fun e=>by rw[e]at h3;exact h3 rfl
 conv=>lhs;unfold txt
 simp only[at_drop,if_neg h1,if_neg h2,if_neg h3,if_neg h0]
 rw[List.drop_drop]
theorem text_any {B P:Nat}{L:List UInt8}{tv iv:Value}{w:World}{p:Sp}(h:TS B P L tv iv w p)(hL:L.length≤6000)(hp:p.pos<L.length):
  Calls Tryz.prog 276 #[.pointer (some ⟨P,0,none⟩)] w fun e w'=>TxtP B P L tv iv w p (txt ((L.drop p.pos).length+1) ((L.drop p.pos).drop 1) [] (p.pos+1)) e w':=by
 have hBl:B≤w.heap.size:=by have:=h.hB;have:=h.lt;omega
 obtain⟨C,hC⟩:∃ C,C=w.heap.size:=⟨_,rfl⟩
 have HC:Hid (P<C∧B≤P∧(∀ g,tv.ownBlock=some g→g<C)∧(∀ g,iv.ownBlock=some g→g<C)∧B≤C∧C=w.heap.size):=by
  rw[hC]
  exact⟨h.lt,h.hB,fun g hg=>(h.ot.lt g hg).2,fun g hg=>(h.oi.lt g hg).2,hBl,rfl⟩
 obtain⟨w0,hw0⟩:∃ w0,w0=w.alloc (.cells #[.pointer none,.slice none 0 0] 120):=⟨_,rfl⟩
 have H0:Hid (TS B P L tv iv w0 p∧Below B w w0∧OnlyP P w w0∧BdIs C C [] w0∧w0.heap.size=C+1):=by
  rw[hw0,hC]
  exact⟨h.up ((Below.refl _ _).alloc (Nat.le_refl _) _),(Below.refl _ _).alloc hBl _,fun g hg _=>heap_al w _ g hg,Lib.fresh_isBuilder _ _ w,by rw[World.size_alloc]⟩
 have c1:=H0.out.1.c1
 have f1:=H0.out.1.fz 1
 obtain⟨y0,hy0⟩:∃ y0,y0=p.pos+1:=⟨_,rfl⟩
 have H1:Hid (TS B P L tv iv (w0.setCell ⟨P,1,none⟩ (.int .i64 (y0:Int))) {p with pos:=y0}∧Below B w (w0.setCell ⟨P,1,none⟩ (.int .i64 (y0:Int)))∧OnlyP P w (w0.setCell ⟨P,1,none⟩ (.int .i64 (y0:Int)))∧BdIs C C (Lib.byteCells []) (w0.setCell ⟨P,1,none⟩ (.int .i64 (y0:Int)))∧C≤(w0.setCell ⟨P,1,none⟩ (.int .i64 (y0:Int))).heap.size):=by
  have k:∀ g:Nat,g≠P→(w0.setCell ⟨P,1,none⟩ (.int .i64 (y0:Int))).heap[g]? =w0.heap[g]? :=fun g hg=>Below.heap_setCell w0 ⟨P,1,none⟩ _ g hg
  have b1:Below B w (w0.setCell ⟨P,1,none⟩ (.int .i64 (y0:Int))):=H0.out.2.1.setCell (p:=⟨P,1,none⟩) HC.out.2.1 _
  refine⟨H0.out.1.setPos _ (fun g=>rfl),b1,fun g hg hp=>(k g hp).trans (H0.out.2.2.1 g hg hp),bd_keep H0.out.2.2.2.1 fun g hg=>k g (by have:=HC.out.1;omega),?_⟩
  have h9:=b1.size
  have h8:=HC.out.2.2.2.2.2
  omega
 have hp1:(p.pos:Int)+1=(y0:Int):=by omega
 have hpi:(p.pos:Int)≤6000:=by omega
 have hwr:IntKind.i64.wrap (y0:Int)=(y0:Int):=by rw[IntKind.wrap_i64];omega
 obtain⟨RES,hRES⟩:∃ RES,RES=txt ((L.drop p.pos).length+1) ((L.drop p.pos).drop 1) [] (p.pos+1):=⟨_,rfl⟩
 rw[←hRES]
 have HRES:Hid (RES=txt (L.length+1) (L.drop y0) [] y0):=by
  show _=_
  rw[hRES,List.drop_drop,←hy0]
  exact txt_more _ _ _ _ _ (by rw[List.length_drop,List.length_drop];omega) (by rw[List.length_drop];omega)
 have hy0l:y0≤L.length:=by omega
 have hCw:w.heap.size=C:=hC.symm
 subst hw0
 clear h hRES hy0 hC
 go_enter Tryz.func276,Tryz.ntmps276
 go_wp2
 go_loopw [4] (fun _ wr=>∃ (x f:Nat) (said:List UInt8),x≤L.length∧Hid ((L.drop x).length<f∧said.length≤x∧RES=txt f (L.drop x) said x)∧Hid (TS B P L tv iv wr {p with pos:=x}∧Below B w wr∧OnlyP P w wr∧BdIs C C (Lib.byteCells said) wr∧C≤wr.heap.size)) (fun _ wr=>L.length-posOf P wr)
 case atStart=>exact⟨y0,L.length+1,[],hy0l,⟨by rw[List.length_drop];omega,by simp,HRES.out⟩,H1.out⟩
 case round=>
  obtain⟨x,f,said,hx,HF,HT⟩:=hrel
  clear H0 H1 HRES
  have hx6:x≤6000:=by omega
  obtain⟨f',hf'⟩:∃ f',f=f'+1:=⟨f-1,by have:=HF.out.1;omega⟩
  subst hf'
  have HSe:Hid (∀ n (c:Nat),c≠0→Calls Tryz.prog 238 #[.pointer (some ⟨P,0,none⟩),.int .u8 c] (wr.drewN n) fun e w'=>e= .returned (.bool (decide ((L.getD x 0).toNat=c)))∧Dr wr w'):=fun n c hc=>(sees_any (HT.out.1.drewN n) hx c hc).mono fun e w' ⟨a,m,b⟩=>⟨a,by rw[b];exact Dr.drewN ⟨n,rfl⟩ m⟩
  have d1:=HT.out.1.c1
  have g1:=HT.out.1.fz 1
  by_cases hq:(L.getD x 0).toNat=34
  ·have HX:Hid (RES= .ok (said,x+1)):=HF.out.2.2.trans (txt_quote f' L said x hq)
   have HSA:Hid (∀ n,Calls Tryz.prog 238 #[.pointer (some ⟨P,0,none⟩),.int .u8 (34:Nat)] (wr.drewN n) fun e w'=>e= .returned (.bool true)∧Dr wr w'):=fun n=>by
    have h9:=HSe.out n 34 (by decide)
    rwa [show decide ((L.getD x 0).toNat=34)=true from by simpa using hq]at h9
   have hxl:x<L.length:=by
    rcases Nat.lt_or_ge x L.length with h|h
    ·exact h
    ·rw[List.getD_eq_getElem?_getD,List.getElem?_eq_none h]at hq;cases hq
   obtain⟨y,hy⟩:∃ y,y=x+1:=⟨_,rfl⟩
   rw[←hy]at HX
   have hxy:(x:Int)+1=(y:Int):=by omega
   have hxi:(x:Int)≤6000:=by omega
   have hyl:y≤L.length:=by omega
   have hyw:IntKind.i64.wrap (y:Int)=(y:Int):=by rw[IntKind.wrap_i64];omega
   have HST:Hid (∀ n,TS B P L tv iv ((wr.drewN n).setCell ⟨P,1,none⟩ (.int .i64 (y:Int))) {p with pos:=y}∧Below B w ((wr.drewN n).setCell ⟨P,1,none⟩ (.int .i64 (y:Int)))∧OnlyP P w ((wr.drewN n).setCell ⟨P,1,none⟩ (.int .i64 (y:Int)))∧BdIs C C (Lib.byteCells said) ((wr.drewN n).setCell ⟨P,1,none⟩ (.int .i64 (y:Int)))∧C≤((wr.drewN n).setCell ⟨P,1,none⟩ (.int .i64 (y:Int))).heap.size):=fun n=>by
    have k:∀ g:Nat,g≠P→((wr.drewN n).setCell ⟨P,1,none⟩ (.int .i64 (y:Int))).heap[g]? =wr.heap[g]? :=fun g hg=>Below.heap_setCell (wr.drewN n) ⟨P,1,none⟩ _ g hg
    have b1:Below B wr ((wr.drewN n).setCell ⟨P,1,none⟩ (.int .i64 (y:Int))):=(below_drewN (Below.refl B wr) n).setCell (p:=⟨P,1,none⟩) HC.out.2.1 _
    refine⟨(HT.out.1.drewN n).setPos _ (fun g=>rfl),HT.out.2.1.trans b1,fun g hg hp=>(k g hp).trans (HT.out.2.2.1 g hg hp),bd_keep HT.out.2.2.2.1 fun g hg=>k g (by have:=HC.out.1;omega),?_⟩
    have h9:=b1.size
    have h8:=HT.out.2.2.2.2
    omega
   clear hq HSe hy hxl
   go_wp2_with fail
   refine(HSA.out 0).mono ?_
   rintro e w1 ⟨rfl,n1,rfl⟩
   go_wp2_with fail
   refine(stL_both C C said _ (HST.out n1).2.2.2.1 (HST.out n1).2.2.2.2).mono ?_
   rintro e w2 ⟨rfl,hb2⟩
   have HE2:Hid (TS B P L tv iv w2 {p with pos:=y}∧Below B w w2∧OnlyP P w w2):=⟨(HST.out n1).1.keep2 HC.out.1 HC.out.2.2.1 HC.out.2.2.2.1 (fun g hg=>hb2.block g hg),(HST.out n1).2.1.trans (hb2.mono HC.out.2.2.2.2.1),fun g hg hp=>(hb2.block g (by have:=HC.out.2.2.2.2.2;omega)).trans ((HST.out n1).2.2.1 g hg hp)⟩
   clear hb2
   go_wp2
   go_ret
   refine⟨fun z hz=>?_,fun t z hz=>?_,HE2.out.2.1,HE2.out.2.2⟩
   ·rw[HX.out]at hz;cases hz
   ·rw[HX.out]at hz
    cases hz
    exact⟨rfl,HE2.out.1,hyl⟩
  ·have HSA:Hid (∀ n,Calls Tryz.prog 238 #[.pointer (some ⟨P,0,none⟩),.int .u8 (34:Nat)] (wr.drewN n) fun e w'=>e= .returned (.bool false)∧Dr wr w'):=fun n=>by
    have h9:=HSe.out n 34 (by decide)
    rwa [show decide ((L.getD x 0).toNat=34)=false from by simpa using hq]at h9
   by_cases hb:(L.getD x 0).toNat=92
   ·have HSB:Hid (∀ n,Calls Tryz.prog 238 #[.pointer (some ⟨P,0,none⟩),.int .u8 (92:Nat)] (wr.drewN n) fun e w'=>e= .returned (.bool true)∧Dr wr w'):=fun n=>by
     have h9:=HSe.out n 92 (by decide)
     rwa [show decide ((L.getD x 0).toNat=92)=true from by simpa using hb]at h9
    have hxl:x<L.length:=by
     rcases Nat.lt_or_ge x L.length with h|h
     ·exact h
     ·rw[List.getD_eq_getElem?_getD,List.getElem?_eq_none h]at hb;cases hb
    have HES:Hid (∀ z,esc (L.getD (x+1) 0).toNat=some z→RES=txt f' (L.drop (x+2)) (said++[UInt8.ofNat z]) (x+2)):=fun z hz=>HF.out.2.2.trans (txt_esc f' L said x z hb hz)
    have HEN:Hid (esc (L.getD (x+1) 0).toNat=none→RES= .error (x+1)):=fun hz=>HF.out.2.2.trans (txt_noesc f' L said x hb hz)
    obtain⟨y,hy⟩:∃ y,y=x+1:=⟨_,rfl⟩
    rw[←hy]at HES HEN
    have hxy:(x:Int)+1=(y:Int):=by omega
    have hxi:(x:Int)≤6000:=by omega
    have hyl:y≤L.length:=by omega
    have hyw:IntKind.i64.wrap (y:Int)=(y:Int):=by rw[IntKind.wrap_i64];omega
    have HST:Hid (∀ n,TS B P L tv iv ((wr.drewN n).setCell ⟨P,1,none⟩ (.int .i64 (y:Int))) {p with pos:=y}∧Below B w ((wr.drewN n).setCell ⟨P,1,none⟩ (.int .i64 (y:Int)))∧OnlyP P w ((wr.drewN n).setCell ⟨P,1,none⟩ (.int .i64 (y:Int)))∧BdIs C C (Lib.byteCells said) ((wr.drewN n).setCell ⟨P,1,none⟩ (.int .i64 (y:Int)))∧C≤((wr.drewN n).setCell ⟨P,1,none⟩ (.int .i64 (y:Int))).heap.size):=fun n=>by
     have k:∀ g:Nat,g≠P→((wr.drewN n).setCell ⟨P,1,none⟩ (.int .i64 (y:Int))).heap[g]? =wr.heap[g]? :=fun g hg=>Below.heap_setCell (wr.drewN n) ⟨P,1,none⟩ _ g hg
     have b1:Below B wr ((wr.drewN n).setCell ⟨P,1,none⟩ (.int .i64 (y:Int))):=(below_drewN (Below.refl B wr) n).setCell (p:=⟨P,1,none⟩) HC.out.2.1 _
     refine⟨(HT.out.1.drewN n).setPos _ (fun g=>rfl),HT.out.2.1.trans b1,fun g hg hp=>(k g hp).trans (HT.out.2.2.1 g hg hp),bd_keep HT.out.2.2.2.1 fun g hg=>k g (by have:=HC.out.1;omega),?_⟩
     have h9:=b1.size
     have h8:=HT.out.2.2.2.2
     omega
    clear hq hb HSe
    cases he:esc (L.getD y 0).toNat with
    |none=>
     have HX:=HEN.out he
     have HXX:Hid (RES= .error y):=HX
     have HNO:Hid (∀ n,Calls Tryz.prog 296 #[.pointer (some ⟨P,0,none⟩)] ((wr.drewN n).setCell ⟨P,1,none⟩ (.int .i64 (y:Int))) fun e w'=>e=PF 1 y∧Below B w w'∧OnlyP P w w'):=fun n=>(escaped_no' (HST.out n).1 hyl he).mono fun e w' ⟨a,b,c⟩=>⟨a,(HST.out n).2.1.trans b,fun g hg hp=>(c g hp).trans ((HST.out n).2.2.1 g hg hp)⟩
     clear HX HEN HES he hy
     go_wp2_with fail
     refine(HSA.out 0).mono ?_
     rintro e w1 ⟨rfl,n1,rfl⟩
     go_wp2_with fail
     refine(HSB.out n1).mono ?_
     rintro e w2 ⟨rfl,n2,rfl⟩
     go_wp2_with fail
     refine(HNO.out n2).mono ?_
     rintro e w3 ⟨rfl,hb3,ho3⟩
     go_wp2
     refine⟨rfl,fun z hz=>?_,fun t z hz=>?_,hb3,ho3⟩
     ·rw[HXX.out]at hz;cases hz;rfl
     ·rw[HXX.out]at hz;cases hz
    |some z=>
     have HX:=HES.out z he
     have hz256:z<256:=by
      unfold esc at he
      repeat' split at he
      all_goals(first|cases he;decide|cases he)
     have hyl2:y<L.length:=by
      rcases Nat.lt_or_ge y L.length with h|h
      ·exact h
      ·rw[List.getD_eq_getElem?_getD,List.getElem?_eq_none h]at he;cases he
     have HYE:Hid (∀ n,Calls Tryz.prog 296 #[.pointer (some ⟨P,0,none⟩)] ((wr.drewN n).setCell ⟨P,1,none⟩ (.int .i64 (y:Int))) fun e w'=>e= .returned (.int .u8 z)∧TS B P L tv iv w' {p with pos:=y+1}∧Below B w w'∧OnlyP P w w'∧BdIs C C (Lib.byteCells said) w'∧C≤w'.heap.size):=fun n=>(escaped_yes (HST.out n).1 hL hyl2 z he).mono fun e w' ⟨a,b,c,d⟩=>⟨a,b,(HST.out n).2.1.trans c,fun g hg hp=>(d g hp).trans ((HST.out n).2.2.1 g hg hp),bd_keep (HST.out n).2.2.2.1 fun g hg=>d g (by have:=HC.out.1;omega),by have h8:=(HST.out n).2.2.2.2;have h9:=c.size;omega⟩
     have HXX:Hid (RES=txt f' (L.drop (y+1)) (said++[UInt8.ofNat z]) (y+1)∧(L.drop (y+1)).length<f'∧(said++[UInt8.ofNat z]).length≤y+1∧Lib.byteCells (said++[UInt8.ofNat z])=Lib.byteCells said++[.int .u8 z]):=by
      refine⟨by rw[HX,hy],?_,?_,?_⟩
      ·have:=HF.out.1
       rw[List.length_drop]at this ⊢
       omega
      ·have:=HF.out.2.1
       rw[List.length_append]
       simp only[List.length_cons,List.length_nil]
       omega
      ·have e2:(UInt8.ofNat z).toNat=z:=by simp[UInt8.toNat_ofNat'];omega
       simp[Lib.byteCells,e2]
     have HSL:Hid (said.length≤6000):=by have:=HF.out.2.1;show _≤_;omega
     have HXY:Hid (y=x+1):=hy
     clear HX HEN HES he hy
     go_wp2_with fail
     refine(HSA.out 0).mono ?_
     rintro e w1 ⟨rfl,n1,rfl⟩
     go_wp2_with fail
     refine(HSB.out n1).mono ?_
     rintro e w2 ⟨rfl,n2,rfl⟩
     go_wp2_with fail
     refine(HYE.out n2).mono ?_
     rintro e w3 ⟨rfl,hts3,hb3,ho3,hd3,hc3⟩
     have H3:Hid (TS B P L tv iv w3 {p with pos:=y+1}∧Below B w w3∧OnlyP P w w3∧BdIs C C (Lib.byteCells said) w3∧C≤w3.heap.size):=⟨hts3,hb3,ho3,hd3,hc3⟩
     clear hts3 hb3 ho3 hd3 hc3
     go_wp2_with fail
     refine(wbL_any C C (Lib.byteCells said) z _ H3.out.2.2.2.1 (by rw[Lib.byteCells_length];have:=HSL.out;omega) H3.out.2.2.2.2).mono ?_
     rintro e w4 ⟨rfl,hd4,hk4⟩
     have H4:Hid (TS B P L tv iv w4 {p with pos:=y+1}∧Below B w w4∧OnlyP P w w4∧BdIs C C (Lib.byteCells (said++[UInt8.ofNat z])) w4∧C≤w4.heap.size):=⟨H3.out.1.keep2 HC.out.1 HC.out.2.2.1 HC.out.2.2.2.1 (fun g hg=>hk4.1.block g hg),H3.out.2.1.trans (hk4.1.mono HC.out.2.2.2.2.1),fun g hg hp=>(hk4.1.block g (by have:=HC.out.2.2.2.2.2;omega)).trans (H3.out.2.2.1 g hg hp),by rw[HXX.out.2.2.2];exact Or.inr hd4,by have h8:=H3.out.2.2.2.2;have h9:=hk4.1.size;omega⟩
     clear hd4 hk4
     go_wp2
     refine⟨⟨y+1,f',said++[UInt8.ofNat z],by omega,⟨HXX.out.2.1,HXX.out.2.2.1,HXX.out.1⟩,H4⟩,?_⟩
     rw[H4.out.1.posOf,HT.out.1.posOf]
     show L.length-(y+1)<L.length-x
     have:=HXY.out
     omega
   ·have HSB:Hid (∀ n,Calls Tryz.prog 238 #[.pointer (some ⟨P,0,none⟩),.int .u8 (92:Nat)] (wr.drewN n) fun e w'=>e= .returned (.bool false)∧Dr wr w'):=fun n=>by
     have h9:=HSe.out n 92 (by decide)
     rwa [show decide ((L.getD x 0).toNat=92)=false from by simpa using hb]at h9
    have HTk:Hid (∀ n,Calls Tryz.prog 266 #[.pointer (some ⟨P,0,none⟩),.func (.func 297) #[] #[]] (wr.drewN n) fun e w'=>e= .returned (.string (mkB ((L.drop x).take (rch isPl (L.drop x)))))∧TS B P L tv iv w' {p with pos:=x+rch isPl (L.drop x)}∧Below B w w'∧OnlyP P w w'∧BdIs C C (Lib.byteCells said) w'∧C≤w'.heap.size):=fun n=>(take_any (HT.out.1.drewN n) hL hx 297 isPl (fun W _=>says_pl W)).mono fun e w' ⟨a,b,c,d⟩=>⟨a,b,HT.out.2.1.trans ((below_drewN (Below.refl B wr) n).trans c),fun g hg hp=>(d g hp).trans (HT.out.2.2.1 g hg hp),bd_keep HT.out.2.2.2.1 fun g hg=>d g (by have:=HC.out.1;omega),by have h8:=HT.out.2.2.2.2;have h9:=((below_drewN (Below.refl B wr) n).trans c).size;omega⟩
    have hkl:=rch_le isPl (L.drop x)
    rw[List.length_drop]at hkl
    have HTS:Hid (rch isPl (L.drop x)=0→RES= .error x):=fun h0=>HF.out.2.2.trans (txt_stop f' L said x hq hb h0)
    have HTP:Hid (rch isPl (L.drop x)≠0→RES=txt f' (L.drop (x+rch isPl (L.drop x))) (said++(L.drop x).take (rch isPl (L.drop x))) (x+rch isPl (L.drop x))):=fun h0=>HF.out.2.2.trans (txt_plain f' L said x hq hb h0)
    have htl:((L.drop x).take (rch isPl (L.drop x))).length=rch isPl (L.drop x):=by rw[List.length_take,List.length_drop];omega
    clear hq hb HSe
    generalize(L.drop x).take (rch isPl (L.drop x))=pl at *
    generalize rch isPl (L.drop x)=k at *
    have hE:((mkB pl).toList==[])=decide (k=0):=by
     rw[mk_toList,Bool.eq_iff_iff]
     simp[←htl]
    by_cases hk:k=0
    ·subst hk
     have HXX:Hid (RES= .error x):=HTS.out rfl
     rw[show decide ((0:Nat)=0)=true from rfl]at hE
     rw[Nat.add_zero]at HTk
     clear HTS HTP htl hkl
     generalize mkB pl=t at *
     go_wp2_with fail
     refine(HSA.out 0).mono ?_
     rintro e w1 ⟨rfl,n1,rfl⟩
     go_wp2_with fail
     refine(HSB.out n1).mono ?_
     rintro e w2 ⟨rfl,n2,rfl⟩
     go_wp2_with fail
     refine(HTk.out n2).mono ?_
     rintro e w3 ⟨rfl,hts3,hb3,ho3,-,-⟩
     have H3:Hid (TS B P L tv iv w3 {p with pos:=x}∧Below B w w3∧OnlyP P w w3):=⟨hts3,hb3,ho3⟩
     clear hts3 hb3 ho3
     go_wp2_with fail
     refine(giveUp_any H3.out.1 1).mono ?_
     rintro e w' ⟨rfl,rfl⟩
     go_wp2
     refine⟨rfl,fun z hz=>?_,fun t z hz=>?_,H3.out.2.1,H3.out.2.2⟩
     ·rw[HXX.out]at hz;cases hz;rfl
     ·rw[HXX.out]at hz;cases hz
    ·have HX:=HTP.out hk
     rw[show decide (k=0)=false from by simpa using hk]at hE
     have HXX:Hid (RES=txt f' (L.drop (x+k)) (said++pl) (x+k)∧(L.drop (x+k)).length<f'∧(said++pl).length≤x+k∧Lib.byteCells (said++pl)=Lib.byteCells said++Lib.strCells (mkB pl)∧0<k∧x+k≤L.length):=by
      refine⟨HX,?_,?_,?_,by omega,by omega⟩
      ·have:=HF.out.1
       rw[List.length_drop]at this ⊢
       omega
      ·have:=HF.out.2.1
       rw[List.length_append]
       omega
      ·rw[Lib.strCells_eq,mk_data]
       simp[Lib.byteCells]
     have HSL:Hid (said.length≤6000∧(mkB pl).size≤6000):=by
      refine⟨?_,?_⟩
      ·have:=HF.out.2.1;omega
      ·rw[mk_size];omega
     clear HX HTS HTP htl hkl hk
     generalize mkB pl=t at *
     go_wp2_with fail
     refine(HSA.out 0).mono ?_
     rintro e w1 ⟨rfl,n1,rfl⟩
     go_wp2_with fail
     refine(HSB.out n1).mono ?_
     rintro e w2 ⟨rfl,n2,rfl⟩
     go_wp2_with fail
     refine(HTk.out n2).mono ?_
     rintro e w3 ⟨rfl,hts3,hb3,ho3,hd3,hc3⟩
     have H3:Hid (TS B P L tv iv w3 {p with pos:=x+k}∧Below B w w3∧OnlyP P w w3∧BdIs C C (Lib.byteCells said) w3∧C≤w3.heap.size):=⟨hts3,hb3,ho3,hd3,hc3⟩
     clear hts3 hb3 ho3 hd3 hc3
     go_wp2_with fail
     refine(wsL_any C C (Lib.byteCells said) t _ H3.out.2.2.2.1 (by rw[Lib.byteCells_length];have:=HSL.out;omega) H3.out.2.2.2.2).mono ?_
     rintro e w4 ⟨rfl,hd4,hk4⟩
     have H4:Hid (TS B P L tv iv w4 {p with pos:=x+k}∧Below B w w4∧OnlyP P w w4∧BdIs C C (Lib.byteCells (said++pl)) w4∧C≤w4.heap.size):=⟨H3.out.1.keep2 HC.out.1 HC.out.2.2.1 HC.out.2.2.2.1 (fun g hg=>hk4.1.block g hg),H3.out.2.1.trans (hk4.1.mono HC.out.2.2.2.2.1),fun g hg hp=>(hk4.1.block g (by have:=HC.out.2.2.2.2.2;omega)).trans (H3.out.2.2.1 g hg hp),by rw[HXX.out.2.2.2.1];exact Or.inr hd4,by have h8:=H3.out.2.2.2.2;have h9:=hk4.1.size;omega⟩
     clear hd4 hk4
     go_wp2
     refine⟨⟨x+k,f',said++pl,HXX.out.2.2.2.2.2,⟨HXX.out.2.1,HXX.out.2.2.1,HXX.out.1⟩,H4⟩,?_⟩
     rw[H4.out.1.posOf,HT.out.1.posOf]
     show L.length-(x+k)<L.length-x
     have:=HXX.out.2.2.2.2
     omega
end Go.Proofs.YthfgpkdbclogpaaGreatDoor
