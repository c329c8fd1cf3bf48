/- 22. -/
import Derived.Test.YthfgpkdbclogpaaGreatDoorTx21
set_option maxHeartbeats 40000000
set_option maxRecDepth 100000
namespace Go.Proofs.YthfgpkdbclogpaaGreatDoor
open Go.RowKit Go.Shelf
section
variable {env:List UInt8→Option Va} {E:List (List UInt8×Value)} {w:World} {wb r M S q n m k g c1 n2 c2:Nat} {x ka xa kb xb:Int} {ta tb:ByteArray} {p1 p2 q1 q2 a2:Option Addr} {g1 g2 g3 g4 h1 h2 h3 h4:Nat} {t:List UInt8} {f:Nat}
structure Two (w:World)(wb r g n m k:Nat)(x ka xa kb xb:Int)(ta tb:ByteArray)(p1 p2 q1 q2:Option Addr)(g1 g2 g3 g4 h1 h2 h3 h4:Nat)(va vb:Va):Prop where
 k1:KidAt w r g 0 ka xa ta (.slice p1 g1 h1) (.slice p2 g2 h2)
 k2:KidAt w r g 5 kb xb tb (.slice q1 g3 h3) (.slice q2 g4 h4)
 r1:Rk w wb r (exV ka xa ta (.slice p1 g1 h1) (.slice p2 g2 h2)) (n:Nat) (m:Nat) (vaV va)
 r2:Rk w wb r (exV kb xb tb (.slice q1 g3 h3) (.slice q2 g4 h4)) (m:Nat) (k:Nat) (vaV vb)
theorem look_f {c:Bool}(hs:EvS env E w wb r M S q n)(ht:sgnF t=some (f,c))(j:Int)(W:World)(F:Fr w.heap.size r j w W):(Instr.lookup 50 (.map (some S)) (.string (mkB t)) false).run Tryz.prog W= .ok (.func (.func f) #[] (bif c then#[.pointer (some ⟨q,0,none⟩)]else#[])) W:=
 hs.sgm t f c ht W (by rw[F.block S hs.nes.2,Below.heap_setCell _ _ _ _ hs.nes.1])
theorem fr_here (hs:EvS env E w wb r M S q n):Fr w.heap.size r (n:Nat) w w:=by
 obtain⟨c,hc⟩:=hs.ra
 exact Fr.same hc hs.wk.fuel (Below.refl _ w)
theorem bi_f {va vb v:Va}(hs:EvS env E w wb r M S q n)(T:Two w wb r g n m k x ka xa kb xb ta tb p1 p2 q1 q2 g1 g2 g3 g4 h1 h2 h3 h4 va vb)(ht:sgnF t=some (f,false))(n1:¬(mkB t).toList=[111,114])(n2':¬(mkB t).toList=[97,110,100])(hk:k≤n)
  (HE:∀ args W,(callFunc f args).run Tryz.prog W= .ok (.enter f args) W) (HS:∀ V,Calls Tryz.prog f #[vaV va,vaV vb] V fun e w'=>e= .returned (vaV v)∧w'=V):
  Calls Tryz.prog 182 #[.pointer (some ⟨wb,0,none⟩),exV 14 x (mkB t) (.slice (some ⟨g,0,none⟩) 2 c1) (.slice a2 n2 c2)] w (PoE w r (.ok v,k)):=by
 obtain⟨c,hc⟩:=hs.ra
 exact poE_ok (binary_any hs.wk hc hs.ne hs.sg T.k1 T.k2 n1 n2' T.r1 T.r2 (look_f hs ht) HE fun V F=>(HS V).mono fun e w' h=>⟨h.1,by rw[h.2];exact fr_here (hs.fr hk F)⟩)
theorem bi_no {va vb:Va}{j:Nat}(hs:EvS env E w wb r M S q n)(T:Two w wb r g n m k x ka xa kb xb ta tb p1 p2 q1 q2 g1 g2 g3 g4 h1 h2 h3 h4 va vb)(ht:sgnF t=some (f,false))(n1:¬(mkB t).toList=[111,114])(n2':¬(mkB t).toList=[97,110,100])
  (HE:∀ args W,(callFunc f args).run Tryz.prog W= .ok (.enter f args) W) (HS:∀ V,Calls Tryz.prog f #[vaV va,vaV vb] V fun e w'=>e=PE (j:Nat)∧w'=V):
  Calls Tryz.prog 182 #[.pointer (some ⟨wb,0,none⟩),exV 14 x (mkB t) (.slice (some ⟨g,0,none⟩) 2 c1) (.slice a2 n2 c2)] w (PoE w r (.error j,k)):=by
 obtain⟨c,hc⟩:=hs.ra
 exact poE_er (binary_sgp hs.wk hc hs.ne hs.sg T.k1 T.k2 n1 n2' T.r1 T.r2 (look_f hs ht) HE fun V F=>(HS V).mono fun e w' h=>⟨h.1,by rw[h.2];exact KP.refl _ _⟩)
theorem bi_eq {a b:Int}(hs:EvS env E w wb r M S q n)(T:Two w wb r g n m k x ka xa kb xb ta tb p1 p2 q1 q2 g1 g2 g3 g4 h1 h2 h3 h4 (.inl a) (.inl b))(hk:k≤n)(h0:k≠0):
  Calls Tryz.prog 182 #[.pointer (some ⟨wb,0,none⟩),exV 14 x (mkB [61,61]) (.slice (some ⟨g,0,none⟩) 2 c1) (.slice a2 n2 c2)] w (PoE w r (.ok (.inr (a==b)),k-1)):=by
 obtain⟨c,hc⟩:=hs.ra
 refine poE_ok (binary_cap hs.wk hc hs.ne hs.sg T.k1 T.k2 (by decide +kernel) (by decide +kernel) T.r1 T.r2 (look_f (t:=[61,61]) hs rfl) (enters_of Tryz.func61 (by kernel_rfl) rfl) fun V F=>?_)
 have hV:=hs.fr hk F
 refine(eq_any q r (k:Nat) a b (by omega) hV.wk.most V hV.atq hV.wk.fuel hV.wk.warm).mono fun e w' h=>⟨h.1,?_⟩
 rw[h.2,show((k:Nat):Int)-1=((k-1:Nat):Int) by omega]
 exact Fr.start _ _ _ _
theorem bi_two {a b:Int}{z:Rs}(hs:EvS env E w wb r M S q n)(T:Two w wb r g n m k x ka xa kb xb ta tb p1 p2 q1 q2 g1 g2 g3 g4 h1 h2 h3 h4 (.inl a) (.inl b))(hk:k≤n)(ha:vaOk (.inl a))(hb:vaOk (.inl b))(h:sgE t a b k=some z):
  Calls Tryz.prog 182 #[.pointer (some ⟨wb,0,none⟩),exV 14 x (mkB t) (.slice (some ⟨g,0,none⟩) 2 c1) (.slice a2 n2 c2)] w (PoE w r z):=by
 obtain⟨ha1,ha2⟩:=ha
 obtain⟨hb1,hb2⟩:=hb
 unfold sgE at h
 split at h
 ·rename_i ht
  subst ht
  obtain⟨rfl,hz1,hz2⟩:=num_ok h
  exact bi_f hs T rfl (by decide +kernel) (by decide +kernel) hk (enters_of Tryz.func69 (by kernel_rfl) rfl) fun V=>plus_any a b hz1 hz2 V
 split at h
 ·rename_i _ ht
  subst ht
  obtain⟨rfl,hz1,hz2⟩:=num_ok h
  exact bi_f hs T rfl (by decide +kernel) (by decide +kernel) hk (enters_of Tryz.func72 (by kernel_rfl) rfl) fun V=>mul_any a b ha1 ha2 hb1 hb2 hz1 hz2 V
 split at h
 ·rename_i _ _ ht
  subst ht
  split at h
  ·rename_i h0
   subst h0
   cases h
   exact bi_no hs T rfl (by decide +kernel) (by decide +kernel) (enters_of Tryz.func74 (by kernel_rfl) rfl) fun V=>over_none a V
  ·rename_i h0
   obtain⟨rfl,hz1,hz2⟩:=num_ok h
   exact bi_f hs T rfl (by decide +kernel) (by decide +kernel) hk (enters_of Tryz.func74 (by kernel_rfl) rfl) fun V=>over_any a b h0 ha1 ha2 V
 split at h
 ·rename_i _ _ _ ht
  subst ht
  split at h
  ·rename_i h0
   subst h0
   cases h
   exact bi_no hs T rfl (by decide +kernel) (by decide +kernel) (enters_of Tryz.func76 (by kernel_rfl) rfl) fun V=>rest_none a V
  ·rename_i h0
   obtain⟨rfl,hz1,hz2⟩:=num_ok h
   exact bi_f hs T rfl (by decide +kernel) (by decide +kernel) hk (enters_of Tryz.func76 (by kernel_rfl) rfl) fun V=>restI_any a b h0 ha1 ha2 hb1 hb2 V
 split at h
 ·rename_i _ _ _ _ ht
  subst ht
  cases h
  exact bi_f (v:= .inr (decide (a<b))) hs T rfl (by decide +kernel) (by decide +kernel) hk (enters_of Tryz.func64 (by kernel_rfl) rfl) fun V=>lt_any a b V
 split at h
 ·rename_i _ _ _ _ _ ht
  subst ht
  cases h
  exact bi_f (v:= .inr (decide (a≤b))) hs T rfl (by decide +kernel) (by decide +kernel) hk (enters_of Tryz.func66 (by kernel_rfl) rfl) fun V=>le_any a b V
 split at h
 ·rename_i _ _ _ _ _ _ ht
  subst ht
  split at h
  ·cases h
  ·rename_i h0
   cases h
   exact bi_eq hs T hk h0
 ·cases h
end
theorem sg_ok {t:List UInt8}{a b:Int}{k:Nat}{z:Rs}(h:sgE t a b k=some z):rsOk z∧z.2≤k:=by
 have hn:∀ {v:Int} {j:Nat} {y:Rs},numE v j=some y→rsOk y∧y.2≤j:=fun hq=>by
  obtain⟨rfl,h1,h2⟩:=num_ok hq
  exact⟨fun v hv=>by cases hv;exact⟨h1,h2⟩,Nat.le_refl _⟩
 have he:∀ (e j:Nat),rsOk ((.error e,j):Rs):=fun e j v hv=>by cases hv
 have hb:∀ (y:Bool) (j:Nat),rsOk ((.ok (.inr y),j):Rs):=fun y j v hv=>by cases hv;exact trivial
 unfold sgE at h
 split at h
 ·exact hn h
 split at h
 ·exact hn h
 split at h
 ·split at h
  ·cases h;exact⟨he _ _,Nat.le_refl _⟩
  ·exact hn h
 split at h
 ·split at h
  ·cases h;exact⟨he _ _,Nat.le_refl _⟩
  ·exact hn h
 split at h
 ·cases h;exact⟨hb _ _,Nat.le_refl _⟩
 split at h
 ·cases h;exact⟨hb _ _,Nat.le_refl _⟩
 split at h
 ·split at h
  ·cases h
  ·cases h;exact⟨hb _ _,Nat.sub_le _ _⟩
 ·cases h
theorem bi_ok {t:List UInt8}{va:Va}{m:Nat}{y:Option Rs}{z:Rs}(h:biE t va m y=some z)(ha:vaOk va)(hy:∀ u,y=some u→rsOk u∧u.2≤m):rsOk z∧z.2≤m:=by
 have hs:secE y=some z→rsOk z∧z.2≤m:=fun hq=>by
  obtain⟨v,j,e,rfl⟩:=sec_ok hq
  exact hy _ e
 have hv:∀ u:Va,vaOk u→rsOk ((.ok u,m):Rs):=fun u hu v hv=>by cases hv;exact hu
 unfold biE at h
 split at h
 ·split at h
  ·cases h;exact⟨hv _ ha,Nat.le_refl _⟩
  ·exact hs h
  ·cases h
 split at h
 ·split at h
  ·cases h;exact⟨hv _ ha,Nat.le_refl _⟩
  ·exact hs h
  ·cases h
 ·split at h
  ·obtain⟨q1,q2⟩:=sg_ok h
   exact⟨q1,Nat.le_trans q2 (hy _ rfl).2⟩
  ·cases h
theorem ev_ok {env:List UInt8→Option Va}(he:∀ t v,env t=some v→vaOk v):∀ (d:Nat) (x:Ex) (n:Nat) (z:Rs),evE env d x n=some z→rsOk z∧z.2≤n:=by
 intro d
 induction d with
 |zero=>intro x n z h;cases h
 |succ d ih=>
  intro x n z h
  cases n with
  |zero=>cases h
  |succ n=>
   unfold evE at h
   split at h
   ·split at h
    ·rename_i hb
     cases h
     exact⟨fun v hv=>by cases hv;exact⟨by omega,by omega⟩,Nat.le_succ n⟩
    ·cases h
   split at h
   ·cases hv:env x.text with
    |none=>rw[hv]at h;cases h
    |some v=>
     rw[hv]at h
     cases h
     exact⟨fun u hu=>by cases hu;exact he _ _ hv,Nat.le_succ n⟩
   split at h
   ·split at h
    ·obtain⟨i,m,hy,rfl⟩:=min_ok h
     obtain⟨q1,q2⟩:=ih _ _ _ hy
     obtain⟨r1,r2⟩:=q1 _ rfl
     exact⟨fun v hv=>by cases hv;exact⟨by omega,by omega⟩,Nat.le_succ_of_le q2⟩
    ·cases h
   split at h
   ·split at h
    ·rcases fst_ok h with⟨k,m,hy,rfl⟩|⟨va,m,hy,hb⟩
     ·exact⟨fun v hv=>(by cases hv),Nat.le_succ_of_le (ih _ _ _ hy).2⟩
     ·obtain⟨q1,q2⟩:=ih _ _ _ hy
      obtain⟨r1,r2⟩:=bi_ok hb (q1 _ rfl) fun u hu=>ih _ _ _ hu
      exact⟨r1,Nat.le_trans r2 (Nat.le_succ_of_le q2)⟩
    ·cases h
   ·cases h
theorem less1 (n:Nat):((n+1:Nat):Int)-1=(n:Nat):=by omega
theorem ev_any {env:List UInt8→Option Va}{E:List (List UInt8×Value)}{wb r M S q lo:Nat}(hl:r<lo):∀ (d:Nat) (x:Ex) (n:Nat) (z:Rs),evE env d x n=some z→∀ (w:World) (c:List Value),EvS env E w wb r M S q n→ExA w (fun g=>lo≤g) x c→
  Calls Tryz.prog 141 #[.pointer (some ⟨wb,0,none⟩),.agg c.toArray] w (PoE w r z):=by
 intro d
 induction d with
 |zero=>intro x n z h;cases h
 |succ d ih=>
  intro x n z h w c hs hx
  cases n with
  |zero=>cases h
  |succ n=>
   obtain⟨kv,nv,vs,rfl,h1,h2,h3,h4,h5⟩:=hx.open
   obtain⟨a1,c1,rfl⟩:=row_shape h1
   obtain⟨a2,c2,rfl⟩:=row_shape h2
   obtain⟨cc,hcc⟩:=hs.ra
   have hn0:(0:Int)<((n+1:Nat):Int):=by omega
   have e1:=less1 n
   obtain⟨kd,num,text,kids,names⟩:=x
   simp only at h1 h2 h5 ⊢
   have kid:∀ (y:Ex) (cy:List Value) (W:World) (j:Nat) (v:Va) (m:Nat),evE env d y j=some (.ok v,m)→EvS env E W wb r M S q j→ExA W (fun g=>lo≤g) y cy→∀ V,Fr W.heap.size r (j:Nat) W V→Calls Tryz.prog 141 #[.pointer (some ⟨wb,0,none⟩),.agg cy.toArray] V fun e w'=>e= .returned (vaV v)∧Fr V.heap.size r (m:Nat) V w':=
    fun y cy W j v m hy hsW hyx V F=>(ih y j _ hy V cy (hsW.fr (Nat.le_refl _) F) (ex_keep hyx hl F)).mono fun e w' p=>p.1 _ rfl
   unfold evE at h
   simp only at h
   split at h
   ·rename_i hk
    subst hk
    split at h
    ·cases h
     refine poE_ok ?_
     have:=reckon_int (x:=(num:Int)) (t:=mkB text) (a1:=a1) (n1:=kids.length) (c1:=c1) (a2:=a2) (n2:=names.length) (c2:=c2) hs.wk hn0
     rw[e1]at this
     exact this
    ·cases h
   split at h
   ·rename_i _ hk
    subst hk
    cases hv:env text with
    |none=>rw[hv]at h;cases h
    |some v=>
     rw[hv]at h
     cases h
     refine poE_ok ?_
     have:=reckon_name (x:=(num:Int)) (t:=mkB text) (v:=vaV v) (a1:=a1) (n1:=kids.length) (c1:=c1) (a2:=a2) (n2:=names.length) (c2:=c2) hs.wk hn0 (fun W F=>by
      rw[e1]at F
      have hW:=hs.fr (Nat.le_succ n) F
      obtain⟨k,mv,_⟩:=hW.mv
      obtain⟨hL1,hL2⟩:=hW.ev _ _ hv
      obtain⟨M2,hM2⟩:=hW.home
      obtain⟨M3,hM3⟩:=hW.bt
      refine named_own wb r M M2 M3 (mkB text) (vaV v) W hW.wk.run hW.own hM2 hM3 fun V hV=>?_
      have:=(MV.look (omapV mv (hV.block M mv.lt)) Tryz.underlying46 (zeroV V) (s:=mkB text) (by rw[mk_size];unfold maxLen;omega))
      rw[mk_data,hL1]at this
      exact this)
     rw[e1]at this
     exact this
   split at h
   ·rename_i _ _ hk
    subst hk
    split at h
    ·rename_i k
     obtain⟨i,m,hy,rfl⟩:=min_ok h
     obtain⟨g,cap,hkv,hki⟩:=kid_at h1 h3 hl h5 (by simp)
     obtain⟨p1,e3,p2,e4,hK,hKx⟩:=hki 0 (by simp)
     obtain⟨r1,r2⟩:=(ev_ok hs.ok d k n _ hy).1 _ rfl
     refine poE_ok ?_
     rw[hkv]
     refine reckon_minus hs.wk hcc hn0 r1 r2 hK ?_
     rw[e1]
     intro V F
     exact(ih k n _ hy V _ (hs.fr (Nat.le_succ n) F) (ex_keep hKx hl F)).mono fun e w' p=>p.1 _ rfl
    ·cases h
   split at h
   ·rename_i _ _ _ hk
    subst hk
    split at h
    ·rename_i ka kb
     obtain⟨g,cap,hkv,hki⟩:=kid_at h1 h3 hl h5 (by simp)
     obtain⟨p1,e3,p2,e4,hK1,hX1⟩:=hki 0 (by simp)
     obtain⟨p3,e5,p4,e6,hK2,hX2⟩:=hki 1 (by simp)
     rw[hkv]
     have key:∀ W,Fr w.heap.size r (n:Nat) w W→Calls Tryz.prog 182 #[.pointer (some ⟨wb,0,none⟩),exV 14 num (mkB text) (.slice (some ⟨g,0,none⟩) 2 cap) (.slice a2 names.length c2)] W (PoE W r z):=by
      intro W F
      have hW:=hs.fr (Nat.le_succ n) F
      obtain⟨cW,hcW⟩:=hW.ra
      have K1:=hK1.fr F
      have K2:=hK2.fr F
      have X1:=ex_keep hX1 hl F
      have X2:=ex_keep hX2 hl F
      rcases fst_ok h with⟨k,m,hy,rfl⟩|⟨va,m,hy,hb⟩
      ·exact poE_er (binary_p1 hW.wk hcW K1 fun V F2=>(ih ka n _ hy V _ (hW.fr (Nat.le_refl _) F2) (ex_keep X1 hl F2)).mono fun e w' p=>p.2 _ rfl)
      ·obtain⟨qa,qm⟩:=ev_ok hs.ok d ka n _ hy
       have R1:Rk W wb r (exV ka.kind ka.num (mkB ka.text) (.slice p1 ka.kids.length e3) (.slice p2 ka.names.length e4)) (n:Nat) (m:Nat) (vaV va):=kid ka _ W n va m hy hW X1
       have R2:∀ (vb:Va) (k:Nat),evE env d kb m=some (.ok vb,k)→Rk W wb r (exV kb.kind kb.num (mkB kb.text) (.slice p3 kb.kids.length e5) (.slice p4 kb.names.length e6)) (m:Nat) (k:Nat) (vaV vb):=fun vb k hy2 V F2=>
        (ih kb m _ hy2 V _ (hW.fr qm F2) (ex_keep X2 hl F2)).mono fun e w' p=>p.1 _ rfl
       unfold biE at hb
       split at hb
       ·rename_i ht
        subst ht
        split at hb
        ·cases hb
         exact poE_ok (binary_dec (bv:=true) hW.wk hcW hW.ne hW.sg K1 (.inl ⟨rfl,rfl⟩) (fun V=>true_any true V) R1)
        ·obtain⟨vb,k,hy2,rfl⟩:=sec_ok hb
         have qk:=(ev_ok hs.ok d kb m _ hy2).2
         exact poE_ok (binary_sec (bv:=false) hW.wk hcW hW.ne hW.sg K1 K2 (.inl ⟨rfl,rfl⟩) (fun V=>true_any false V) R1 (R2 vb k hy2) (look_f (t:=[111,114]) hW rfl) (enters_of Tryz.func59 (by kernel_rfl) rfl) fun V F2=>(or_any _ _ V).mono fun e w' p=>⟨p.1,by rw[p.2];exact fr_here (hW.fr (Nat.le_trans qk qm) F2)⟩)
        ·cases hb
       split at hb
       ·rename_i _ ht
        subst ht
        split at hb
        ·cases hb
         exact poE_ok (binary_dec (bv:=false) hW.wk hcW hW.ne hW.sg K1 (.inr ⟨rfl,rfl⟩) (fun V=>true_any false V) R1)
        ·obtain⟨vb,k,hy2,rfl⟩:=sec_ok hb
         have qk:=(ev_ok hs.ok d kb m _ hy2).2
         exact poE_ok (binary_sec (bv:=true) hW.wk hcW hW.ne hW.sg K1 K2 (.inr ⟨rfl,rfl⟩) (fun V=>true_any true V) R1 (R2 vb k hy2) (look_f (t:=[97,110,100]) hW rfl) (enters_of Tryz.func60 (by kernel_rfl) rfl) fun V F2=>(and_any _ _ V).mono fun e w' p=>⟨p.1,by rw[p.2];exact fr_here (hW.fr (Nat.le_trans qk qm) F2)⟩)
        ·cases hb
       ·split at hb
        ·rename_i a b k hy2
         obtain⟨qb,qk⟩:=ev_ok hs.ok d kb m _ hy2
         exact bi_two hW ⟨K1,K2,R1,R2 _ _ hy2⟩ (Nat.le_trans qk qm) (qa _ rfl) (qb _ rfl) hb
        ·cases hb
     have hz:∀ y:Except Nat Va,z.1=y→(∀ v,y= .ok v→Calls Tryz.prog 141 #[.pointer (some ⟨wb,0,none⟩),exV 14 num (mkB text) (.slice (some ⟨g,0,none⟩) 2 cap) (.slice a2 names.length c2)] w fun e w'=>e= .returned (vaV v)∧Fr w.heap.size r (z.2:Nat) w w')∧∀ k,y= .error k→Calls Tryz.prog 141 #[.pointer (some ⟨wb,0,none⟩),exV 14 num (mkB text) (.slice (some ⟨g,0,none⟩) 2 cap) (.slice a2 names.length c2)] w fun e w'=>e=PE (k:Nat)∧KP r w w':=fun y hy=>
      ⟨fun v hv=>reckon_bin hs.wk hcc hn0 fun W F=>(key W (by rw[e1]at F;exact F)).mono fun e w' p=>p.1 v (hy.trans hv),fun k hk=>reckon_bnp hs.wk hn0 fun W F=>(key W (by rw[e1]at F;exact F)).mono fun e w' p=>p.2 k (hy.trans hk)⟩
     obtain⟨z1,z2⟩:=z
     cases z1 with
     |ok v=>exact poE_ok ((hz _ rfl).1 v rfl)
     |error k=>exact poE_er ((hz _ rfl).2 k rfl)
    ·cases h
   ·cases h
abbrev stV (k:Int)(t:ByteArray)(s0:Value)(ke xe:Int)(te:ByteArray)(s1 s2 s3 s4:Value):Array Value:=#[.int .i64 k,.string t,s0,.int .i64 ke,.int .i64 xe,.string te,s1,s2,s3,s4]
def Ss (wb M b:Nat)(t te:ByteArray)(ke xe:Int)(a1 a2:Option Addr)(n1 c1 n2 c2:Nat)(W:World):Prop:=W.cell? ⟨wb,1,none⟩=some (.map (some M))∧W.cell? ⟨b,1,none⟩=some (.string t)∧W.cell? ⟨b,3,none⟩=some (.int .i64 ke)∧W.cell? ⟨b,4,none⟩=some (.int .i64 xe)∧W.cell? ⟨b,5,none⟩=some (.string te)∧W.cell? ⟨b,6,none⟩=some (.slice a1 n1 c1)∧W.cell? ⟨b,7,none⟩=some (.slice a2 n2 c2)
set_option linter.unusedSimpArgs false in
theorem set_go {wb r M:Nat}{n ke xe:Int}{t te:ByteArray}{v:Value}{a0 a1 a2 a3 a4:Option Addr}{n0 c0 n1 c1 n2 c2 n3 c3 n4 c4:Nat}{w:World}{c:Array Value}{Q:World→Prop}(h:WkAt w wb r n)(hr:RAt w r c)(hn:0<n)(hne:wb≠r)(ho:w.cell? ⟨wb,1,none⟩=some (.map (some M)))(hM:M<w.heap.size)(hwM:wb≠M)
  (HR:∀ W,Fr w.heap.size r (n-1) w W→Calls Tryz.prog 141 #[.pointer (some ⟨wb,0,none⟩),exV ke xe te (.slice a1 n1 c1) (.slice a2 n2 c2)] W fun e w'=>e= .returned v∧KP r W w'∧∃ w4,(Instr.mapUpdate 46 (.map (some M)) (.string t) v).run Tryz.prog w'= .ok () w4∧w'.mapTurned w4 M∧Q w4):
  Calls Tryz.prog 111 #[.pointer (some ⟨wb,0,none⟩),.agg (stV 3 t (.slice a0 n0 c0) ke xe te (.slice a1 n1 c1) (.slice a2 n2 c2) (.slice a3 n3 c3) (.slice a4 n4 c4))] w fun e w'=>e= .returned .nilIface∧Q w':=by
 obtain⟨W1,e1⟩:∃ W1,W1=w.alloc (.cells (stV 3 t (.slice a0 n0 c0) ke xe te (.slice a1 n1 c1) (.slice a2 n2 c2) (.slice a3 n3 c3) (.slice a4 n4 c4)) 164):=⟨_,rfl⟩
 have hb:Below w.heap.size w W1:=by rw[e1];exact(Below.refl _ w).alloc (Nat.le_refl _) _
 have hbox:W1.heap[w.heap.size]? =some (.cells (stV 3 t (.slice a0 n0 c0) ke xe te (.slice a1 n1 c1) (.slice a2 n2 c2) (.slice a3 n3 c3) (.slice a4 n4 c4)) 164 (0,0)):=by rw[e1];exact heap_alloc_new w _
 have hsz:W1.heap.size=w.heap.size+1:=by rw[e1];exact World.size_alloc _ _
 have hlr:=h.lr
 have hlw:=h.lw
 have hner:w.heap.size≠r:=by omega
 obtain⟨W2,e2⟩:∃ W2,W2=W1.setCell ⟨r,3,none⟩ (.int .i64 (n-1)):=⟨_,rfl⟩
 have HB:=burn_any r n hn h.most W1 ((hb.cell (p:=⟨r,3,none⟩) h.lr).trans h.fuel) ((hb.frozen (p:=⟨r,3,none⟩) h.lr).trans h.warm)
 rw[←e2]at HB
 have hw1:W1.cell? ⟨wb,0,none⟩=some (.pointer (some ⟨r,0,none⟩)):=(hb.cell (p:=⟨wb,0,none⟩) h.lw).trans h.run
 have F1:Fr W1.heap.size r (n-1) W1 W2:=by rw[e2];exact Fr.start _ _ _ _
 have F2:Fr w.heap.size r (n-1) w W2.drew:=(Fr.trans h.lr hr (Fr.same hr h.fuel hb) (Below.mono F1 (by omega))).below (Below.refl _ _).drew
 have hbx:∀ W:World,KP r W2.drew W→W.cell? ⟨wb,1,none⟩=some (.map (some M))∧W.cell? ⟨w.heap.size,0,none⟩=some (.int .i64 3)∧W.cell? ⟨w.heap.size,1,none⟩=some (.string t)∧W.cell? ⟨w.heap.size,3,none⟩=some (.int .i64 ke)∧W.cell? ⟨w.heap.size,4,none⟩=some (.int .i64 xe)∧W.cell? ⟨w.heap.size,5,none⟩=some (.string te)∧W.cell? ⟨w.heap.size,6,none⟩=some (.slice a1 n1 c1)∧W.cell? ⟨w.heap.size,7,none⟩=some (.slice a2 n2 c2):=by
  intro W k
  have hs2:W2.drew.heap.size=w.heap.size+1:=by rw[←hsz,e2];exact size_set W1 _ _
  have hx:W.heap[w.heap.size]? =some (.cells (stV 3 t (.slice a0 n0 c0) ke xe te (.slice a1 n1 c1) (.slice a2 n2 c2) (.slice a3 n3 c3) (.slice a4 n4 c4)) 164 (0,0)):=by
   rw[k.blk _ (by omega) hner]
   rw[e2]
   exact(Below.heap_setCell _ _ _ _ hner).trans hbox
  refine⟨?_,?_,?_,?_,?_,?_,?_,?_⟩
  ·rw[World.cell?_of_block (w:=W2.drew) (k.blk wb (by omega) hne)]
   rw[F2.other (p:=⟨wb,1,none⟩) h.lw hne]
   exact ho
  all_goals simp[World.cell?,hx]
 have H0:=hbx _ (KP.refl _ _)
 obtain⟨b0,b1',b2,b3,b4,b5,b6,b7⟩:=H0
 have b1:W2.cell? ⟨w.heap.size,0,none⟩=some (.int .i64 3):=b1'
 have HC:=HR _ F2
 have HX:Hid (∀ W:World,KP r W2.drew W→W.cell? ⟨wb,1,none⟩=some (.map (some M))∧W.cell? ⟨w.heap.size,0,none⟩=some (.int .i64 3)∧W.cell? ⟨w.heap.size,1,none⟩=some (.string t)∧W.cell? ⟨w.heap.size,3,none⟩=some (.int .i64 ke)∧W.cell? ⟨w.heap.size,4,none⟩=some (.int .i64 xe)∧W.cell? ⟨w.heap.size,5,none⟩=some (.string te)∧W.cell? ⟨w.heap.size,6,none⟩=some (.slice a1 n1 c1)∧W.cell? ⟨w.heap.size,7,none⟩=some (.slice a2 n2 c2)):=hbx
 have HSS:Hid (Ss wb M w.heap.size t te ke xe a1 a2 n1 c1 n2 c2 W2.drew):=⟨b0,b2,b3,b4,b5,b6,b7⟩
 clear F1 F2 hb hbox hbx HR
 clear e2
 subst e1
 go_enter Tryz.func111,Tryz.ntmps111
 go_wp2_with fail
 refine HB.mono ?_
 rintro e w' ⟨rfl,rfl⟩
 go_wp2_with fail
 refine wp_region_held_drew (S:=Ss wb M w.heap.size t te ke xe a1 a2 n1 c1 n2 c2) (by kernel_rfl) HSS.out (fun hHeld=>?_)
 refine wpAnyH_take (i:=0) (v:= .pointer (some ⟨wb,0,none⟩)) rfl (by kernel_rfl) (by kernel_rfl) (by kernel_rfl) (fun _ _ _ h=>h) (Or.inl ⟨by rfl,?_⟩) (by assumption) ?_
 ·intro V hSV
  obtain⟨l0,l1,l2,l3,l4,l5,l6⟩:=hSV
  go_simp
  try with_reducible rfl
 try simp only[Act.put,List.setIfInBounds_toArray,List.set_cons_zero,List.set_cons_succ]
 refine wpAnyH_take (i:=1) (v:= .pointer (some ⟨wb,0,none⟩)) rfl (by kernel_rfl) (by kernel_rfl) (by kernel_rfl) (fun _ _ _ h=>h) (Or.inl ⟨by rfl,?_⟩) (by assumption) ?_
 ·intro V hSV
  obtain⟨l0,l1,l2,l3,l4,l5,l6⟩:=hSV
  go_simp
  try with_reducible rfl
 try simp only[Act.put,List.setIfInBounds_toArray,List.set_cons_zero,List.set_cons_succ]
 refine wpAnyH_take (i:=2) (v:= .pointer (some ⟨wb,1,none⟩)) rfl (by kernel_rfl) (by kernel_rfl) (by kernel_rfl) (fun _ _ _ h=>h) (Or.inl ⟨by rfl,?_⟩) (by assumption) ?_
 ·intro V hSV
  obtain⟨l0,l1,l2,l3,l4,l5,l6⟩:=hSV
  go_simp
  try with_reducible rfl
 try simp only[Act.put,List.setIfInBounds_toArray,List.set_cons_zero,List.set_cons_succ]
 refine wpAnyH_take (i:=3) (v:= .map (some M)) rfl (by kernel_rfl) (by kernel_rfl) (by kernel_rfl) (fun _ _ _ h=>h) (Or.inl ⟨by rfl,?_⟩) (by assumption) ?_
 ·intro V hSV
  obtain⟨l0,l1,l2,l3,l4,l5,l6⟩:=hSV
  go_simp
  try with_reducible rfl
 try simp only[Act.put,List.setIfInBounds_toArray,List.set_cons_zero,List.set_cons_succ]
 refine wpAnyH_take (i:=4) (v:= .pointer (some ⟨w.heap.size,1,none⟩)) rfl (by kernel_rfl) (by kernel_rfl) (by kernel_rfl) (fun _ _ _ h=>h) (Or.inl ⟨by rfl,?_⟩) (by assumption) ?_
 ·intro V hSV
  obtain⟨l0,l1,l2,l3,l4,l5,l6⟩:=hSV
  go_simp
  try with_reducible rfl
 try simp only[Act.put,List.setIfInBounds_toArray,List.set_cons_zero,List.set_cons_succ]
 refine wpAnyH_take (i:=5) (v:= .string t) rfl (by kernel_rfl) (by kernel_rfl) (by kernel_rfl) (fun _ _ _ h=>h) (Or.inl ⟨by rfl,?_⟩) (by assumption) ?_
 ·intro V hSV
  obtain⟨l0,l1,l2,l3,l4,l5,l6⟩:=hSV
  go_simp
  try with_reducible rfl
 try simp only[Act.put,List.setIfInBounds_toArray,List.set_cons_zero,List.set_cons_succ]
 refine wpAnyH_take (i:=6) (v:= .pointer (some ⟨wb,0,none⟩)) rfl (by kernel_rfl) (by kernel_rfl) (by kernel_rfl) (fun _ _ _ h=>h) (Or.inl ⟨by rfl,?_⟩) (by assumption) ?_
 ·intro V hSV
  obtain⟨l0,l1,l2,l3,l4,l5,l6⟩:=hSV
  go_simp
  try with_reducible rfl
 try simp only[Act.put,List.setIfInBounds_toArray,List.set_cons_zero,List.set_cons_succ]
 refine wpAnyH_take (i:=7) (v:= .pointer (some ⟨w.heap.size,3,none⟩)) rfl (by kernel_rfl) (by kernel_rfl) (by kernel_rfl) (fun _ _ _ h=>h) (Or.inl ⟨by rfl,?_⟩) (by assumption) ?_
 ·intro V hSV
  obtain⟨l0,l1,l2,l3,l4,l5,l6⟩:=hSV
  go_simp
  try with_reducible rfl
 try simp only[Act.put,List.setIfInBounds_toArray,List.set_cons_zero,List.set_cons_succ]
 refine wpAnyH_take (i:=8) (v:=exV ke xe te (.slice a1 n1 c1) (.slice a2 n2 c2)) rfl (by kernel_rfl) (by kernel_rfl) (by kernel_rfl) (fun _ _ _ h=>h) (Or.inl ⟨by rfl,?_⟩) (by assumption) ?_
 ·intro V hSV
  obtain⟨l0,l1,l2,l3,l4,l5,l6⟩:=hSV
  go_simp
  try with_reducible rfl
 try simp only[Act.put,List.setIfInBounds_toArray,List.set_cons_zero,List.set_cons_succ]
 refine wpAnyH_ready (rs:=[9]) (by kernel_rfl) (by simp) (AllReadyH.cons rfl (fun K hK=>?_) AllReadyH.nil)
 go_simp
 refine HC.mono ?_
 rintro e W3 ⟨rfl,hk3,w4,hu,hm,hq⟩
 obtain⟨d0,d1,d2,d3,d4,d5,d6,d7⟩:=HX.out _ hk3
 refine hK.out _ _ ⟨d0,d2,d3,d4,d5,d6,d7⟩ (fun hHeld=>?_)
 clear hK K
 try simp only[Act.put,List.setIfInBounds_toArray,List.set_cons_zero,List.set_cons_succ]
 refine wpAnyH_ready (rs:=[10]) (by kernel_rfl) (by simp) (AllReadyH.cons rfl (fun K hK=>?_) AllReadyH.nil)
 have hS4:Ss wb M w.heap.size t te ke xe a1 a2 n1 c1 n2 c2 w4:=by
  have hg:=hm.grown
  have hlt:w.heap.size<W3.heap.size:=World.block_lt_of_cell? W3 _ d1
  have hlt2:wb<W3.heap.size:=World.block_lt_of_cell? W3 _ d0
  have e1:w4.heap[wb]? =W3.heap[wb]? :=hg.block wb hlt2 (fun e=>hwM (Option.some.inj e))
  have e2:w4.heap[w.heap.size]? =W3.heap[w.heap.size]? :=hg.block _ hlt (fun e=>by have:=Option.some.inj e;omega)
  exact⟨(World.cell?_of_block e1).trans d0,(World.cell?_of_block e2).trans d2,(World.cell?_of_block e2).trans d3,(World.cell?_of_block e2).trans d4,(World.cell?_of_block e2).trans d5,(World.cell?_of_block e2).trans d6,(World.cell?_of_block e2).trans d7⟩
 go_simp
 refine hK.out _ _ hS4 (fun hHeld=>?_)
 clear hK K
 refine wpAnyH_done (by kernel_rfl) ?_ _
 try simp only[Act.put,List.setIfInBounds_toArray,List.set_cons_zero,List.set_cons_succ]
 go_wp2
 go_ret
 exact⟨rfl,hq⟩
set_option linter.unusedSimpArgs false in
theorem set_no {wb r M:Nat}{n ke xe k:Int}{t te:ByteArray}{a0 a1 a2 a3 a4:Option Addr}{n0 c0 n1 c1 n2 c2 n3 c3 n4 c4:Nat}{w:World}{c:Array Value}(h:WkAt w wb r n)(hr:RAt w r c)(hn:0<n)(hne:wb≠r)(ho:w.cell? ⟨wb,1,none⟩=some (.map (some M)))
  (HR:∀ W,Fr w.heap.size r (n-1) w W→Calls Tryz.prog 141 #[.pointer (some ⟨wb,0,none⟩),exV ke xe te (.slice a1 n1 c1) (.slice a2 n2 c2)] W fun e w'=>e=PE k∧KP r W w'):
  Calls Tryz.prog 111 #[.pointer (some ⟨wb,0,none⟩),.agg (stV 3 t (.slice a0 n0 c0) ke xe te (.slice a1 n1 c1) (.slice a2 n2 c2) (.slice a3 n3 c3) (.slice a4 n4 c4))] w fun e w'=>e=PE k∧KP r w w':=by
 obtain⟨W1,e1⟩:∃ W1,W1=w.alloc (.cells (stV 3 t (.slice a0 n0 c0) ke xe te (.slice a1 n1 c1) (.slice a2 n2 c2) (.slice a3 n3 c3) (.slice a4 n4 c4)) 164):=⟨_,rfl⟩
 have hb:Below w.heap.size w W1:=by rw[e1];exact(Below.refl _ w).alloc (Nat.le_refl _) _
 have hbox:W1.heap[w.heap.size]? =some (.cells (stV 3 t (.slice a0 n0 c0) ke xe te (.slice a1 n1 c1) (.slice a2 n2 c2) (.slice a3 n3 c3) (.slice a4 n4 c4)) 164 (0,0)):=by rw[e1];exact heap_alloc_new w _
 have hsz:W1.heap.size=w.heap.size+1:=by rw[e1];exact World.size_alloc _ _
 have hlr:=h.lr
 have hlw:=h.lw
 have hner:w.heap.size≠r:=by omega
 obtain⟨W2,e2⟩:∃ W2,W2=W1.setCell ⟨r,3,none⟩ (.int .i64 (n-1)):=⟨_,rfl⟩
 have HB:=burn_any r n hn h.most W1 ((hb.cell (p:=⟨r,3,none⟩) h.lr).trans h.fuel) ((hb.frozen (p:=⟨r,3,none⟩) h.lr).trans h.warm)
 rw[←e2]at HB
 have hw1:W1.cell? ⟨wb,0,none⟩=some (.pointer (some ⟨r,0,none⟩)):=(hb.cell (p:=⟨wb,0,none⟩) h.lw).trans h.run
 have F1:Fr W1.heap.size r (n-1) W1 W2:=by rw[e2];exact Fr.start _ _ _ _
 have F2:Fr w.heap.size r (n-1) w W2.drew:=(Fr.trans h.lr hr (Fr.same hr h.fuel hb) (Below.mono F1 (by omega))).below (Below.refl _ _).drew
 have hx:W2.heap[w.heap.size]? =some (.cells (stV 3 t (.slice a0 n0 c0) ke xe te (.slice a1 n1 c1) (.slice a2 n2 c2) (.slice a3 n3 c3) (.slice a4 n4 c4)) 164 (0,0)):=by rw[e2];exact(Below.heap_setCell _ _ _ _ hner).trans hbox
 have b:W2.cell? ⟨w.heap.size,0,none⟩=some (.int .i64 3)∧W2.cell? ⟨w.heap.size,1,none⟩=some (.string t)∧W2.cell? ⟨w.heap.size,3,none⟩=some (.int .i64 ke)∧W2.cell? ⟨w.heap.size,4,none⟩=some (.int .i64 xe)∧W2.cell? ⟨w.heap.size,5,none⟩=some (.string te)∧W2.cell? ⟨w.heap.size,6,none⟩=some (.slice a1 n1 c1)∧W2.cell? ⟨w.heap.size,7,none⟩=some (.slice a2 n2 c2):=by
  refine⟨?_,?_,?_,?_,?_,?_,?_⟩
  all_goals simp[World.cell?,hx]
 obtain⟨b0,b2,b3,b4,b5,b6,b7⟩:=b
 have b1:W2.cell? ⟨wb,1,none⟩=some (.map (some M)):=(F2.other (p:=⟨wb,1,none⟩) h.lw hne).trans ho
 have HC:=HR _ F2
 have HSS:Hid (Ss wb M w.heap.size t te ke xe a1 a2 n1 c1 n2 c2 W2.drew):=⟨b1,b2,b3,b4,b5,b6,b7⟩
 have HK:Hid (KP r w W2.drew):=kp_of F2
 clear F1 F2 hb hbox hx HR
 clear e2
 subst e1
 go_enter Tryz.func111,Tryz.ntmps111
 go_wp2_with fail
 refine HB.mono ?_
 rintro e w' ⟨rfl,rfl⟩
 go_wp2_with fail
 refine wp_region_held_drew (S:=Ss wb M w.heap.size t te ke xe a1 a2 n1 c1 n2 c2) (by kernel_rfl) HSS.out (fun hHeld=>?_)
 refine wpAnyH_take (i:=0) (v:= .pointer (some ⟨wb,0,none⟩)) rfl (by kernel_rfl) (by kernel_rfl) (by kernel_rfl) (fun _ _ _ h=>h) (Or.inl ⟨by rfl,?_⟩) (by assumption) ?_
 ·intro V hSV
  obtain⟨l0,l1,l2,l3,l4,l5,l6⟩:=hSV
  go_simp
  try with_reducible rfl
 try simp only[Act.put,List.setIfInBounds_toArray,List.set_cons_zero,List.set_cons_succ]
 refine wpAnyH_take (i:=1) (v:= .pointer (some ⟨wb,0,none⟩)) rfl (by kernel_rfl) (by kernel_rfl) (by kernel_rfl) (fun _ _ _ h=>h) (Or.inl ⟨by rfl,?_⟩) (by assumption) ?_
 ·intro V hSV
  obtain⟨l0,l1,l2,l3,l4,l5,l6⟩:=hSV
  go_simp
  try with_reducible rfl
 try simp only[Act.put,List.setIfInBounds_toArray,List.set_cons_zero,List.set_cons_succ]
 refine wpAnyH_take (i:=2) (v:= .pointer (some ⟨wb,1,none⟩)) rfl (by kernel_rfl) (by kernel_rfl) (by kernel_rfl) (fun _ _ _ h=>h) (Or.inl ⟨by rfl,?_⟩) (by assumption) ?_
 ·intro V hSV
  obtain⟨l0,l1,l2,l3,l4,l5,l6⟩:=hSV
  go_simp
  try with_reducible rfl
 try simp only[Act.put,List.setIfInBounds_toArray,List.set_cons_zero,List.set_cons_succ]
 refine wpAnyH_take (i:=3) (v:= .map (some M)) rfl (by kernel_rfl) (by kernel_rfl) (by kernel_rfl) (fun _ _ _ h=>h) (Or.inl ⟨by rfl,?_⟩) (by assumption) ?_
 ·intro V hSV
  obtain⟨l0,l1,l2,l3,l4,l5,l6⟩:=hSV
  go_simp
  try with_reducible rfl
 try simp only[Act.put,List.setIfInBounds_toArray,List.set_cons_zero,List.set_cons_succ]
 refine wpAnyH_take (i:=4) (v:= .pointer (some ⟨w.heap.size,1,none⟩)) rfl (by kernel_rfl) (by kernel_rfl) (by kernel_rfl) (fun _ _ _ h=>h) (Or.inl ⟨by rfl,?_⟩) (by assumption) ?_
 ·intro V hSV
  obtain⟨l0,l1,l2,l3,l4,l5,l6⟩:=hSV
  go_simp
  try with_reducible rfl
 try simp only[Act.put,List.setIfInBounds_toArray,List.set_cons_zero,List.set_cons_succ]
 refine wpAnyH_take (i:=5) (v:= .string t) rfl (by kernel_rfl) (by kernel_rfl) (by kernel_rfl) (fun _ _ _ h=>h) (Or.inl ⟨by rfl,?_⟩) (by assumption) ?_
 ·intro V hSV
  obtain⟨l0,l1,l2,l3,l4,l5,l6⟩:=hSV
  go_simp
  try with_reducible rfl
 try simp only[Act.put,List.setIfInBounds_toArray,List.set_cons_zero,List.set_cons_succ]
 refine wpAnyH_take (i:=6) (v:= .pointer (some ⟨wb,0,none⟩)) rfl (by kernel_rfl) (by kernel_rfl) (by kernel_rfl) (fun _ _ _ h=>h) (Or.inl ⟨by rfl,?_⟩) (by assumption) ?_
 ·intro V hSV
  obtain⟨l0,l1,l2,l3,l4,l5,l6⟩:=hSV
  go_simp
  try with_reducible rfl
 try simp only[Act.put,List.setIfInBounds_toArray,List.set_cons_zero,List.set_cons_succ]
 refine wpAnyH_take (i:=7) (v:= .pointer (some ⟨w.heap.size,3,none⟩)) rfl (by kernel_rfl) (by kernel_rfl) (by kernel_rfl) (fun _ _ _ h=>h) (Or.inl ⟨by rfl,?_⟩) (by assumption) ?_
 ·intro V hSV
  obtain⟨l0,l1,l2,l3,l4,l5,l6⟩:=hSV
  go_simp
  try with_reducible rfl
 try simp only[Act.put,List.setIfInBounds_toArray,List.set_cons_zero,List.set_cons_succ]
 refine wpAnyH_take (i:=8) (v:=exV ke xe te (.slice a1 n1 c1) (.slice a2 n2 c2)) rfl (by kernel_rfl) (by kernel_rfl) (by kernel_rfl) (fun _ _ _ h=>h) (Or.inl ⟨by rfl,?_⟩) (by assumption) ?_
 ·intro V hSV
  obtain⟨l0,l1,l2,l3,l4,l5,l6⟩:=hSV
  go_simp
  try with_reducible rfl
 try simp only[Act.put,List.setIfInBounds_toArray,List.set_cons_zero,List.set_cons_succ]
 refine wpAnyH_ready (rs:=[9]) (by kernel_rfl) (by simp) (AllReadyH.cons rfl (fun K hK=>?_) AllReadyH.nil)
 go_simp
 refine HC.mono ?_
 rintro e W3 ⟨rfl,hk3⟩
 exact⟨rfl,rfl,HK.out.trans hk3⟩
end Go.Proofs.YthfgpkdbclogpaaGreatDoor
