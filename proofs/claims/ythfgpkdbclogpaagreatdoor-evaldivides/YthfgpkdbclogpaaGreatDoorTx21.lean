/- 21. -/
import Derived.Test.YthfgpkdbclogpaaGreatDoorTx20
import Derived.Test.YthfgpkdbclogpaaGreatDoorTx18
import Derived.Test.YthfgpkdbclogpaaGreatDoorTx16
set_option maxHeartbeats 40000000
set_option maxRecDepth 100000
namespace Go.Proofs.YthfgpkdbclogpaaGreatDoor
open Go.RowKit Go.Shelf
abbrev Va:=Sum Int Bool
def vaV:Va→Value
 | .inl n=>nmV n
 | .inr b=>trV b
def inR (n:Int):Bool:=decide (-9007199254740991≤n)&&decide (n≤9007199254740991)
theorem inR_of {n:Int}(h:inR n=true):-9007199254740991≤n∧n≤9007199254740991:=by
 obtain⟨h1,h2⟩:=Bool.and_eq_true_iff.1 h
 exact⟨of_decide_eq_true h1,of_decide_eq_true h2⟩
abbrev Rs:=Except Nat Va×Nat
def numE (v:Int)(n:Nat):Option Rs:=bif inR v then some (.ok (.inl v),n)else none
def sgE (t:List UInt8)(a b:Int)(n:Nat):Option Rs:=
 if t=[43]then numE (a+b) n
 else if t=[42]then numE (a*b) n
 else if t=[47,47]then(if b=0 then some (.error 3,n)else numE (a.fdiv b) n)
 else if t=[37]then(if b=0 then some (.error 3,n)else numE (a.fmod b) n)
 else if t=[60]then some (.ok (.inr (decide (a<b))),n)
 else if t=[60,61]then some (.ok (.inr (decide (a≤b))),n)
 else if t=[61,61]then(if n=0 then none else some (.ok (.inr (a==b)),n-1))
 else none
def secE (z:Option Rs):Option Rs:=match z with
 |some (.ok v,m)=>some (.ok v,m)
 |_=>none
def biE (t:List UInt8)(va:Va)(m:Nat)(z:Option Rs):Option Rs:=
 if t=[111,114]then(match va with
  | .inr true=>some (.ok va,m)
  | .inr false=>secE z
  | .inl _=>none)
 else if t=[97,110,100]then(match va with
  | .inr false=>some (.ok va,m)
  | .inr true=>secE z
  | .inl _=>none)
 else match va,z with
  | .inl a,some (.ok (.inl b),k)=>sgE t a b k
  |_,_=>none
def fstE (t:List UInt8)(y:Option Rs)(f:Nat→Option Rs):Option Rs:=match y with
 |some (.error e,m)=>some (.error e,m)
 |some (.ok va,m)=>biE t va m (f m)
 |none=>none
def minE (y:Option Rs):Option Rs:=match y with
 |some (.ok (.inl i),m)=>some (.ok (.inl (-i)),m)
 |_=>none
def evE (env:List UInt8→Option Va):Nat→Ex→Nat→Option Rs
 |0,_,_=>none
 |_+1,_,0=>none
 |d+1,x,n+1=>
  if x.kind=4 then(if x.num≤9007199254740991 then some (.ok (.inl x.num),n)else none)
  else if x.kind=6 then(env x.text).map fun v=>(.ok v,n)
  else if x.kind=13 then(match x.kids with
   |[k]=>minE (evE env d k n)
   |_=>none)
  else if x.kind=14 then(match x.kids with
   |[a,b]=>fstE x.text (evE env d a n) fun m=>evE env d b m
   |_=>none)
  else none
def vaOk:Va→Prop
 | .inl n=>-9007199254740991≤n∧n≤9007199254740991
 | .inr _=>True
def rsOk (z:Rs):Prop:=∀ v,z.1= .ok v→vaOk v
theorem num_ok {v:Int}{n:Nat}{z:Rs}(h:numE v n=some z):z=(.ok (.inl v),n)∧-9007199254740991≤v∧v≤9007199254740991:=by
 unfold numE at h
 cases hz:inR v with
 |false=>rw[hz]at h;cases h
 |true=>
  rw[hz]at h
  cases h
  exact⟨rfl,inR_of hz⟩
theorem sec_ok {y:Option Rs}{z:Rs}(h:secE y=some z):∃ v m,y=some (.ok v,m)∧z=(.ok v,m):=by
 unfold secE at h
 split at h
 ·cases h
  exact⟨_,_,rfl,rfl⟩
 ·cases h
theorem min_ok {y:Option Rs}{z:Rs}(h:minE y=some z):∃ i m,y=some (.ok (.inl i),m)∧z=(.ok (.inl (-i)),m):=by
 unfold minE at h
 split at h
 ·cases h
  exact⟨_,_,rfl,rfl⟩
 ·cases h
theorem fst_ok {t:List UInt8}{y:Option Rs}{f:Nat→Option Rs}{z:Rs}(h:fstE t y f=some z):(∃ k m,y=some (.error k,m)∧z=(.error k,m))∨∃ va m,y=some (.ok va,m)∧biE t va m (f m)=some z:=by
 unfold fstE at h
 split at h
 ·cases h
  exact .inl ⟨_,_,rfl,rfl⟩
 ·exact .inr ⟨_,_,rfl,h⟩
 ·cases h
def sgnF (t:List UInt8):Option (Nat×Bool):=
 if t=[43]then some (69,false)
 else if t=[42]then some (72,false)
 else if t=[47,47]then some (74,false)
 else if t=[37]then some (76,false)
 else if t=[60]then some (64,false)
 else if t=[60,61]then some (66,false)
 else if t=[61,61]then some (61,true)
 else if t=[111,114]then some (59,false)
 else if t=[97,110,100]then some (60,false)
 else none
theorem row_f {w:World}{B:Nat}{e:TypeId}{sz:Nat}{v:Value}{n:Nat}{xs:List Value}(h:w.ownsRow B e sz v n xs)(hn:0<n):∃ g cap,v= .slice (some ⟨g,0,none⟩) n cap∧g<w.heap.size∧∀ j,j<n*sz→w.cell? ⟨g,j,none⟩=xs[j]? :=by
 rcases h.2 with⟨_,e0⟩|⟨g,cap,cur,hv,h2,h3,h4,h5,h6,h7⟩
 ·omega
 ·exact⟨g,cap,hv,(Array.getElem?_eq_some_iff.1 h3).1,fun j hj=>by rw[Lib.cell_of_heap h3,←h7,List.getElem?_take_of_lt hj];simp⟩
def SgM (w:World)(S q:Nat):Prop:=∀ t f c,sgnF t=some (f,c)→∀ W:World,W.heap[S]? =w.heap[S]?→(Instr.lookup 50 (.map (some S)) (.string (mkB t)) false).run Tryz.prog W= .ok (.func (.func f) #[] (bif c then#[.pointer (some ⟨q,0,none⟩)]else#[])) W
structure EvS (env:List UInt8→Option Va)(E:List (List UInt8×Value))(w:World)(wb r M S q:Nat)(n:Nat):Prop where
 wk:WkAt w wb r n
 ra:∃ c,RAt w r c
 ne:wb≠r
 neq:q≠r
 lq:q<w.heap.size
 atq:w.cell? ⟨q,0,none⟩=some (.pointer (some ⟨r,0,none⟩))
 sg:w.cell? ⟨r,2,none⟩=some (.map (some S))
 sgm:SgM w S q
 nes:S≠r∧S<w.heap.size
 own:w.cell? ⟨wb,1,none⟩=some (.map (some M))
 home:∃ M2,w.cell? ⟨wb,2,none⟩=some (.map (some M2))
 bt:∃ M3,w.cell? ⟨r,1,none⟩=some (.map (some M3))
 nem:M≠r
 mv:∃ k,MV w M k E∧k+n≤1000000
 ev:∀ t v,env t=some v→lkE E t=some (vaV v)∧t.length≤1000
 ok:∀ t v,env t=some v→vaOk v
 nm:wb≠M∧q≠M∧S≠M
 tg:w.cell? ⟨r,4,none⟩=some (.slice none 0 0)
theorem EvS.fr {env:List UInt8→Option Va}{E:List (List UInt8×Value)}{w W:World}{wb r M S q n m:Nat}(h:EvS env E w wb r M S q n)(hm:m≤n)(f:Fr w.heap.size r m w W):EvS env E W wb r M S q m:=by
 obtain⟨c,hc⟩:=h.ra
 obtain⟨M2,h2⟩:=h.home
 obtain⟨M3,h3⟩:=h.bt
 obtain⟨k,hv,he⟩:=h.mv
 have hs:=f.size
 have hr:=f.at h.wk.lr hc
 have blk:∀ g,g<w.heap.size→g≠r→W.heap[g]? =w.heap[g]? :=fun g h1 h2=>by rw[f.block g h1,Below.heap_setCell _ _ _ _ h2]
 have h3':c[3]? =some (.int .i64 n):=by simpa[World.cell?,hc]using h.wk.fuel
 have hl:3<c.size:=(Array.getElem?_eq_some_iff.1 h3').1
 refine⟨⟨Nat.lt_of_lt_of_le h.wk.lw hs,Nat.lt_of_lt_of_le h.wk.lr hs,?_,?_,Lib.frozen_of_heap hr 3,by have:=h.wk.most;omega⟩,⟨_,hr⟩,h.ne,h.neq,Nat.lt_of_lt_of_le h.lq hs,?_,?_,fun t f' c' e V hV=>h.sgm t f' c' e V (hV.trans (blk S h.nes.2 h.nes.1)),⟨h.nes.1,Nat.lt_of_lt_of_le h.nes.2 hs⟩,?_,⟨M2,?_⟩,⟨M3,?_⟩,h.nem,⟨k,omapV hv (blk M hv.lt h.nem),by omega⟩,h.ev,h.ok,h.nm,?_⟩
 ·rw[f.other (p:=⟨wb,0,none⟩) h.wk.lw h.ne];exact h.wk.run
 ·rw[Lib.cell_of_heap hr];simp[hl]
 ·rw[f.other (p:=⟨q,0,none⟩) h.lq h.neq];exact h.atq
 ·rw[f.run h.wk.lr (by omega)];exact h.sg
 ·rw[f.other (p:=⟨wb,1,none⟩) h.wk.lw h.ne];exact h.own
 ·rw[f.other (p:=⟨wb,2,none⟩) h.wk.lw h.ne];exact h2
 ·rw[f.run h.wk.lr (by omega)];exact h3
 ·rw[f.run h.wk.lr (by omega)];exact h.tg
theorem ex_keep {w W:World}{r lo:Nat}{m:Int}{x:Ex}{c:List Value}(h:ExA w (fun g=>lo≤g) x c)(hl:r<lo)(f:Fr w.heap.size r m w W):ExA W (fun g=>lo≤g) x c:=
 h.keep (fun g h1 h2=>by rw[f.block g h2,Below.heap_setCell _ _ _ _ (by show g≠r;omega)]) (fun _ h1 _=>h1)
theorem kid_at {w:World}{r lo:Nat}{kv:Value}{xs:List Ex}{vs:List (List Value)}(h1:w.ownsRow 0 162 5 kv xs.length vs.flatten)(h3:∀ g,kv.ownBlock=some g→lo≤g)(hl:r<lo)(h5:Fa (ExA w fun g=>lo≤g) xs vs)(hn:0<xs.length):
  ∃ g cap,kv= .slice (some ⟨g,0,none⟩) xs.length cap∧∀ i (hi:i<xs.length),∃ p1 e1 p2 e2,KidAt w r g (5*i) xs[i].kind xs[i].num (mkB xs[i].text) (.slice p1 xs[i].kids.length e1) (.slice p2 xs[i].names.length e2)∧ExA w (fun g=>lo≤g) xs[i] [.int .i64 xs[i].kind,.int .i64 xs[i].num,.string (mkB xs[i].text),.slice p1 xs[i].kids.length e1,.slice p2 xs[i].names.length e2]:=by
 obtain⟨g,cap,rfl,hg,hc⟩:=row_f h1 hn
 refine⟨g,cap,rfl,fun i hi=>?_⟩
 have hlen:=h5.len
 have hx:=h5.get i hi (by omega)
 have h55:∀ c∈vs,c.length=5:=fun c hc=>by
  obtain⟨j,hj,rfl⟩:=List.getElem_of_mem hc
  exact(h5.get j (by omega) hj).len
 have hfl:∀ (us:List (List Value)),(∀ c∈us,c.length=5)→∀ (i k:Nat) (hi:i<us.length),k<5→us.flatten[5*i+k]? =us[i][k]? :=by
  intro us
  induction us with
  |nil=>intro _ i k hi;exact absurd hi (Nat.not_lt_zero _)
  |cons u us ih=>
   intro hu i k hi hk
   have hu0:=hu u List.mem_cons_self
   cases i with
   |zero=>
    show(u++us.flatten)[5*0+k]? =u[k]?
    rw[List.getElem?_append_left (by omega)]
    simp
   |succ i=>
    show(u++us.flatten)[5*(i+1)+k]? =(us[i]'(Nat.lt_of_succ_lt_succ hi))[k]?
    rw[List.getElem?_append_right (by omega),←ih (fun c hc=>hu c (List.mem_cons_of_mem _ hc)) i k (by simpa using hi) hk]
    congr 1
    omega
 obtain⟨p1,e1,p2,e2,he⟩:=hx.form
 rw[he]at hx
 have cell:∀ k,k<5→w.cell? ⟨g,5*i+k,none⟩=([.int .i64 xs[i].kind,.int .i64 xs[i].num,.string (mkB xs[i].text),.slice p1 xs[i].kids.length e1,.slice p2 xs[i].names.length e2]:List Value)[k]? :=fun k hk=>by
  rw[hc _ (by omega),hfl vs h55 i k (by omega) hk,he]
 exact⟨p1,e1,p2,e2,⟨hg,by have:=h3 g rfl;omega,cell 0 (by decide),cell 1 (by decide),cell 2 (by decide),cell 3 (by decide),cell 4 (by decide)⟩,hx⟩
def PoE (w:World)(r:Nat)(z:Rs)(e:Ending)(w':World):Prop:=(∀ v,z.1= .ok v→e= .returned (vaV v)∧Fr w.heap.size r (z.2:Nat) w w')∧∀ k,z.1= .error k→e=PE (k:Nat)∧KP r w w'
theorem poE_ok {f:Nat}{args:Array Value}{w:World}{r:Nat}{v:Va}{m:Nat}(h:Calls Tryz.prog f args w fun e w'=>e= .returned (vaV v)∧Fr w.heap.size r (m:Nat) w w'):Calls Tryz.prog f args w (PoE w r (.ok v,m)):=by
 refine h.mono ?_
 intro e w' q
 exact⟨fun v' hv=>(by cases hv;exact q),fun k hk=>(by cases hk)⟩
theorem poE_er {f:Nat}{args:Array Value}{w:World}{r k m:Nat}(h:Calls Tryz.prog f args w fun e w'=>e=PE (k:Nat)∧KP r w w'):Calls Tryz.prog f args w (PoE w r (.error k,m)):=by
 refine h.mono ?_
 intro e w' q
 exact⟨fun v' hv=>(by cases hv),fun k' hk=>(by cases hk;exact q)⟩
end Go.Proofs.YthfgpkdbclogpaaGreatDoor
namespace Go.Proofs.YthfgpkdbclogpaaGreatDoor
open Go.RowKit
def sgL (q:Nat):List (List UInt8×Value):=[([37],.func (.func 76) #[] #[]),
 ([47,47],.func (.func 74) #[] #[]),
 ([42],.func (.func 72) #[] #[]),
 ([45],.func (.func 70) #[] #[]),
 ([43],.func (.func 69) #[] #[]),
 ([105,110],.func (.func 67) #[] #[ptB q]),
 ([60,61],.func (.func 66) #[] #[]),
 ([60],.func (.func 64) #[] #[]),
 ([33,61],.func (.func 63) #[] #[ptB q]),
 ([61,61],.func (.func 61) #[] #[ptB q]),
 ([97,110,100],.func (.func 60) #[] #[]),
 ([111,114],.func (.func 59) #[] #[])]
theorem sgM_of {w:World}{S k q:Nat}(h:MV w S k (sgL q)):SgM w S q:=by
 intro t f c ht W hW
 have hz:∀ V:World,(zeroValue 103).run Tryz.prog V= .ok .nilFunc V:=fun V=>by kernel_rfl
 have hk:lkE (sgL q) t=some (.func (.func f) #[] (bif c then#[ptB q]else#[]))∧t.length≤10:=by
  unfold sgnF at ht
  split at ht
  ·rename_i e;subst e;cases ht;exact⟨rfl,by decide⟩
  split at ht
  ·rename_i e;subst e;cases ht;exact⟨rfl,by decide⟩
  split at ht
  ·rename_i e;subst e;cases ht;exact⟨rfl,by decide⟩
  split at ht
  ·rename_i e;subst e;cases ht;exact⟨rfl,by decide⟩
  split at ht
  ·rename_i e;subst e;cases ht;exact⟨rfl,by decide⟩
  split at ht
  ·rename_i e;subst e;cases ht;exact⟨rfl,by decide⟩
  split at ht
  ·rename_i e;subst e;cases ht;exact⟨rfl,by decide⟩
  split at ht
  ·rename_i e;subst e;cases ht;exact⟨rfl,by decide⟩
  split at ht
  ·rename_i e;subst e;cases ht;exact⟨rfl,by decide⟩
  ·cases ht
 have:=(MV.look1 (omapV h hW) Tryz.underlying50 (hz W) (s:=mkB t) (by rw[mk_size];unfold maxLen;omega))
 rw[mk_data,hk.1]at this
 exact this
theorem upon_sign {w:World}{M k:Nat}{E:List (List UInt8×Value)}{ky:List UInt8}{kb:ByteArray}{v:Value}{β:Type}{R:Result β→Prop}{c:Unit→World→Result β}
  (h:MV w M k E) (hk:k≤100) (hky:kb=mkB ky) (hl:ky.length≤10)
  (hK:∀ w',MV w' M (k+1) ((ky,v)::E)→w.mapTurned w' M→R (c () w')):
  R (((Instr.mapUpdate 50 (.map (some M)) (.string kb) v).run Tryz.prog w).andThen c):=by
 subst hky
 obtain⟨w',hu,mv,hm⟩:=h.put Tryz.underlying50 (by unfold maxLen;omega) (s:=mkB ky) (by rw[mk_size];unfold maxLen;omega) v
 rw[mk_data]at mv
 rw[hu]
 exact hK w' mv hm
structure SgI (B M k:Nat)(E:List (List UInt8×Value))(bx r:Nat)(w0 w:World):Prop where
 mv:MV w M k E
 lo:B≤M
 bel:Below B w0 w
 bx:bx≠M∧w.heap[bx]? =some (.cells #[ptB r] 43 (0,0))
theorem SgI.put {B M k:Nat}{E:List (List UInt8×Value)}{bx r:Nat}{w0 w w':World}{p:List UInt8×Value}(h:SgI B M k E bx r w0 w)(mv:MV w' M (k+1) (p::E))(hm:w.mapTurned w' M):SgI B M (k+1) (p::E) bx r w0 w':=by
 have hg:=hm.grown
 have hB:=h.lo
 have hl:=h.mv.lt
 refine⟨mv,h.lo,Below.trans h.bel ⟨hg.os,hg.tape,hg.output,hg.size,fun j hj=>hg.block j (by omega) (fun e=>by have:=Option.some.inj e;omega)⟩,h.bx.1,(hg.block _ (Array.getElem?_eq_some_iff.1 h.bx.2).1 fun e=>h.bx.1 (Option.some.inj e)).trans h.bx.2⟩
theorem newS_any (r:Nat)(w:World):Calls Tryz.prog 23 #[ptB r] w fun e w'=>∃ M,e= .returned (.map (some M))∧w.heap.size<M∧MV w' M 12 (sgL w.heap.size)∧Below w.heap.size w w'∧w'.heap[w.heap.size]? =some (.cells #[ptB r] 43 (0,0)):=by
 have hmf:∀ (fn:Fn) (first cap:Array Value) (w:World),(Instr.makeFunc fn first cap).run Tryz.prog w= .ok (.func fn first cap) w:=fun _ _ _ _=>rfl
 have hmm:=@run_makeMap Tryz.prog
 have HF:Hid (SgI w.heap.size (w.heap.size+1) 0 [] w.heap.size r w ((w.alloc (.cells #[ptB r] 43)).alloc (.map #[] 0))):=by
  have hs:(w.alloc (.cells #[ptB r] 43)).heap.size=w.heap.size+1:=World.size_alloc _ _
  have hm:=MV.made (w.alloc (.cells #[ptB r] 43))
  rw[hs]at hm
  exact⟨hm,by omega,((Below.refl _ w).alloc (Nat.le_refl _) _).alloc (by omega) _,by omega,(heap_al _ _ _ (by omega)).trans (heap_alloc_new w _)⟩
 go_enter Tryz.func23,Tryz.ntmps23
 go_wp2
 refine upon_sign (R:=Oper.upon _ _ _ _ _) (ky:=[111,114]) HF.out.mv (by decide) rfl (by decide) ?_
 intro w1 mv1 hm1
 replace HF:=(HF.out.put mv1 hm1:SgI _ _ _ _ _ _ _ _)
 have HF:Hid _:=HF
 clear mv1 hm1
 go_wp2
 refine upon_sign (R:=Oper.upon _ _ _ _ _) (ky:=[97,110,100]) HF.out.mv (by decide) rfl (by decide) ?_
 intro w1 mv1 hm1
 replace HF:=(HF.out.put mv1 hm1:SgI _ _ _ _ _ _ _ _)
 have HF:Hid _:=HF
 clear mv1 hm1
 go_wp2
 refine upon_sign (R:=Oper.upon _ _ _ _ _) (ky:=[61,61]) HF.out.mv (by decide) rfl (by decide) ?_
 intro w1 mv1 hm1
 replace HF:=(HF.out.put mv1 hm1:SgI _ _ _ _ _ _ _ _)
 have HF:Hid _:=HF
 clear mv1 hm1
 go_wp2
 refine upon_sign (R:=Oper.upon _ _ _ _ _) (ky:=[33,61]) HF.out.mv (by decide) rfl (by decide) ?_
 intro w1 mv1 hm1
 replace HF:=(HF.out.put mv1 hm1:SgI _ _ _ _ _ _ _ _)
 have HF:Hid _:=HF
 clear mv1 hm1
 go_wp2
 refine upon_sign (R:=Oper.upon _ _ _ _ _) (ky:=[60]) HF.out.mv (by decide) rfl (by decide) ?_
 intro w1 mv1 hm1
 replace HF:=(HF.out.put mv1 hm1:SgI _ _ _ _ _ _ _ _)
 have HF:Hid _:=HF
 clear mv1 hm1
 go_wp2
 refine upon_sign (R:=Oper.upon _ _ _ _ _) (ky:=[60,61]) HF.out.mv (by decide) rfl (by decide) ?_
 intro w1 mv1 hm1
 replace HF:=(HF.out.put mv1 hm1:SgI _ _ _ _ _ _ _ _)
 have HF:Hid _:=HF
 clear mv1 hm1
 go_wp2
 refine upon_sign (R:=Oper.upon _ _ _ _ _) (ky:=[105,110]) HF.out.mv (by decide) rfl (by decide) ?_
 intro w1 mv1 hm1
 replace HF:=(HF.out.put mv1 hm1:SgI _ _ _ _ _ _ _ _)
 have HF:Hid _:=HF
 clear mv1 hm1
 go_wp2
 refine upon_sign (R:=Oper.upon _ _ _ _ _) (ky:=[43]) HF.out.mv (by decide) rfl (by decide) ?_
 intro w1 mv1 hm1
 replace HF:=(HF.out.put mv1 hm1:SgI _ _ _ _ _ _ _ _)
 have HF:Hid _:=HF
 clear mv1 hm1
 go_wp2
 refine upon_sign (R:=Oper.upon _ _ _ _ _) (ky:=[45]) HF.out.mv (by decide) rfl (by decide) ?_
 intro w1 mv1 hm1
 replace HF:=(HF.out.put mv1 hm1:SgI _ _ _ _ _ _ _ _)
 have HF:Hid _:=HF
 clear mv1 hm1
 go_wp2
 refine upon_sign (R:=Oper.upon _ _ _ _ _) (ky:=[42]) HF.out.mv (by decide) rfl (by decide) ?_
 intro w1 mv1 hm1
 replace HF:=(HF.out.put mv1 hm1:SgI _ _ _ _ _ _ _ _)
 have HF:Hid _:=HF
 clear mv1 hm1
 go_wp2
 refine upon_sign (R:=Oper.upon _ _ _ _ _) (ky:=[47,47]) HF.out.mv (by decide) rfl (by decide) ?_
 intro w1 mv1 hm1
 replace HF:=(HF.out.put mv1 hm1:SgI _ _ _ _ _ _ _ _)
 have HF:Hid _:=HF
 clear mv1 hm1
 go_wp2
 refine upon_sign (R:=Oper.upon _ _ _ _ _) (ky:=[37]) HF.out.mv (by decide) rfl (by decide) ?_
 intro w1 mv1 hm1
 replace HF:=(HF.out.put mv1 hm1:SgI _ _ _ _ _ _ _ _)
 have HF:Hid _:=HF
 clear mv1 hm1
 go_wp2
 go_ret
 exact⟨_,rfl,Nat.lt_succ_self _,HF.out.mv,HF.out.bel,HF.out.bx.2⟩
end Go.Proofs.YthfgpkdbclogpaaGreatDoor
namespace Go.Proofs.YthfgpkdbclogpaaGreatDoor
open Go.RowKit Go.Shelf
theorem zeroS (w:World):(zeroValue 60).run Tryz.prog w= .ok (.pointer none) w:=by kernel_rfl
structure RnI (B:Nat)(w0 w:World)(r:Nat)(path text:ByteArray)(fuel:Int):Prop where
 ex:∃ M0 sb Mb Ms q,w.heap[r]? =some (.cells #[.map (some M0),.map (some Mb),.map (some Ms),.int .i64 fuel,.slice none 0 0] 52 (0,0))∧MV w M0 1 [(path.data.toList,ptB sb)]∧w.heap[sb]? =some (.cells #[.string text,.map none,.bool false] 62 (0,0))∧
  (∃ k E p,MV w Mb k E∧lkE E kRule=some (fnI p)∧RuleAt B r w p)∧MV w Ms 12 (sgL q)∧w.heap[q]? =some (.cells #[ptB r] 43 (0,0))∧q<Ms∧r<q∧r<Mb∧B≤r∧B≤M0∧B≤sb∧sb≠r
 bel:Below B w0 w
abbrev rn0 (M0:Nat)(fuel:Int):Array Value:=#[.map (some M0),.map none,.map none,.int .i64 fuel,.slice none 0 0]
abbrev soC (text:ByteArray):Array Value:=#[.string text,.map none,.bool false]
structure NrI (w:World)(path text:ByteArray)(fuel:Int)(k:Nat)(W:World):Prop where
 bel:Below w.heap.size w W
 run:W.heap[w.heap.size+1]? =some (.cells (rn0 w.heap.size fuel) 52 (0,0))
 fst:k=0→MV W w.heap.size 0 []
 snd:k=1→∃ sb,w.heap.size+1<sb∧MV W w.heap.size 1 [(path.data.toList,ptB sb)]∧W.heap[sb]? =some (.cells (soC text) 62 (0,0))
def SNr (n f:Nat)(path text:ByteArray)(W:World):Prop:=W.cell? ⟨n+1,0,none⟩=some (.map (some n))∧W.cell? ⟨f,0,none⟩=some (.string path)∧W.cell? ⟨f,1,none⟩=some (.string text)
theorem NrI.up {w:World}{path text:ByteArray}{fuel:Int}{W V:World}(h:NrI w path text fuel 0 W)(hb:Below W.heap.size W V):NrI w path text fuel 0 V:=
 ⟨Below.trans h.bel (hb.mono h.bel.size),(hb.block _ (Array.getElem?_eq_some_iff.1 h.run).1).trans h.run,fun _=>omapV (h.fst rfl) (hb.block _ (h.fst rfl).lt),fun e=>by cases e⟩
theorem SNr.up {n f:Nat}{path text:ByteArray}{W V:World}(h:SNr n f path text W)(hb:Below W.heap.size W V):SNr n f path text V:=
 ⟨(hb.cell (World.block_lt_of_cell? W _ h.1)).trans h.1,(hb.cell (World.block_lt_of_cell? W _ h.2.1)).trans h.2.1,(hb.cell (World.block_lt_of_cell? W _ h.2.2)).trans h.2.2⟩
theorem NrI.put {w:World}{path text:ByteArray}{fuel:Int}{W:World}{f sb:Nat}{px:ByteArray}(h:NrI w path text fuel 0 W∧SNr w.heap.size f path text W∧w.heap.size+1<sb∧w.heap.size<f∧W.heap[sb]? =some (.cells (soC text) 62 (0,0)))(_:0<1)(hp:path.size≤100000)(hx:px=path):
  ∃ w4,(Instr.mapUpdate 49 (.map (some w.heap.size)) (.string px) (ptB sb)).run Tryz.prog W= .ok () w4∧NrI w path text fuel 1 w4∧SNr w.heap.size f path text w4∧W.mapTurned w4 w.heap.size:=by
 subst hx
 obtain⟨h1,h2,h3,h4,h5⟩:=h
 obtain⟨w4,hu,mv,hm⟩:=(h1.fst rfl).put Tryz.underlying49 (by decide) (s:=px) (by unfold maxLen;omega) (ptB sb)
 have hg:=hm.grown
 have blk:∀ g,g<W.heap.size→g≠w.heap.size→w4.heap[g]? =W.heap[g]? :=fun g q1 q2=>hg.block g q1 fun e=>q2 (Option.some.inj e)
 have hl:=(Array.getElem?_eq_some_iff.1 h1.run).1
 have hsl:=(Array.getElem?_eq_some_iff.1 h5).1
 have hfl:=World.block_lt_of_cell? W _ h2.2.1
 refine⟨w4,hu,⟨Below.trans h1.bel ⟨hg.os,hg.tape,hg.output,hg.size,fun j hj=>blk j (by have:=h1.bel.size;omega) (by omega)⟩,(blk _ hl (by omega)).trans h1.run,(fun e=>by cases e),fun _=>⟨sb,h3,mv,(blk _ hsl (by omega)).trans h5⟩⟩,⟨(World.cell?_of_block (blk (w.heap.size+1) hl (by omega))).trans h2.1,(World.cell?_of_block (blk f hfl (by omega))).trans h2.2.1,(World.cell?_of_block (blk f hfl (by omega))).trans h2.2.2⟩,hm⟩
set_option linter.unusedSimpArgs false in
theorem newR_one (g cap:Nat)(path text:ByteArray)(x:Bool)(fuel:Int)(w:World)(hp:path.size≤100000)(h0:w.cell? ⟨g,0,none⟩=some (.string path))(h1:w.cell? ⟨g,1,none⟩=some (.string text))(h2:w.cell? ⟨g,2,none⟩=some (.bool x)):
  Calls Tryz.prog 11 #[.slice (some ⟨g,0,none⟩) 1 cap,.int .i64 fuel] w fun e w'=>∃ r,e= .returned (ptB r)∧RnI w.heap.size w w' r path text fuel:=by
 have hmm:=@run_makeMap Tryz.prog
 have hgl:=World.block_lt_of_cell? w _ h0
 have HG:Hid (∀ V,Below w.heap.size w V→V.cell? ⟨g,0,none⟩=some (.string path)∧V.cell? ⟨g,1,none⟩=some (.string text)∧V.cell? ⟨g,2,none⟩=some (.bool x)):=fun V hb=>⟨(hb.cell hgl).trans h0,(hb.cell (p:=⟨g,1,none⟩) hgl).trans h1,(hb.cell (p:=⟨g,2,none⟩) hgl).trans h2⟩
 have HCl:Hid (∀ W,Calls Tryz.prog 21 #[.string path] W fun e w'=>e= .returned (.string path)∧Below W.heap.size W w'):=fun W=>clone_any path W (by omega)
 have H0:Hid (NrI w path text fuel 0 ((w.alloc (.map #[] 0)).alloc (.cells (rn0 w.heap.size fuel) 52))):=by
  have s1:(w.alloc (.map #[] 0)).heap.size=w.heap.size+1:=World.size_alloc _ _
  refine⟨((Below.refl _ w).alloc (Nat.le_refl _) _).alloc (by omega) _,?_,fun _=>omapV (MV.made w) (heap_al _ _ _ (by omega)),fun e=>by cases e⟩
  rw[←s1]
  exact heap_alloc_new _ _
 clear h0 h1 h2 hgl
 go_enter Tryz.func11,Tryz.ntmps11
 go_wp2_with fail
 go_loopw [14] (fun i wr=>∃ k:Nat,k≤1∧i= .int .i64 (k:Int)∧Hid (NrI w path text fuel k wr)) (fun i _=>1-(intOf i).toNat)
 case atStart=>exact⟨0,Nat.zero_le _,rfl,H0⟩
 case round=>
  obtain⟨k,hk,rfl,HN⟩:=hrel
  clear H0
  rcases(show k=0∨k=1 by omega)with rfl|rfl
  ·obtain⟨z0,z1,z2⟩:=HG.out wr HN.out.bel
   have hb1:Below wr.heap.size wr (wr.alloc (.cells #[.string path,.string text,.bool x] 35)).drew:=((Below.refl _ wr).alloc (Nat.le_refl _) _).drew
   have hnew:=heap_alloc_new wr (.cells #[.string path,.string text,.bool x] 35)
   have hI1:=HN.out.up hb1
   have hlt:=(Array.getElem?_eq_some_iff.1 HN.out.run).1
   have hSS:SNr w.heap.size wr.heap.size path text (wr.alloc (.cells #[.string path,.string text,.bool x] 35)).drew:=by
    refine⟨?_,?_,?_⟩
    ·rw[Lib.cell_of_heap hI1.run];rfl
    ·rw[Lib.cell_of_heap (w:=(wr.alloc (.cells #[.string path,.string text,.bool x] 35)).drew) hnew];rfl
    ·rw[Lib.cell_of_heap (w:=(wr.alloc (.cells #[.string path,.string text,.bool x] 35)).drew) hnew];rfl
   have HSS:Hid (NrI w path text fuel 0 (wr.alloc (.cells #[.string path,.string text,.bool x] 35)).drew∧SNr w.heap.size wr.heap.size path text (wr.alloc (.cells #[.string path,.string text,.bool x] 35)).drew):=⟨hI1,hSS⟩
   clear hb1 hnew hI1 hSS
   go_wp2_with fail
   have hlt2:w.heap.size<wr.heap.size:=by omega
   generalize(wr.alloc (.cells #[.string path,.string text,.bool x] 35))=W at HSS ⊢
   refine wp_region_held_drew (S:=SNr w.heap.size wr.heap.size path text) (by kernel_rfl) HSS.out.2 (fun hHeld=>?_)
   refine wpAnyH_take (i:=0) (v:=ptB (w.heap.size+1)) rfl (by kernel_rfl) (by kernel_rfl) (by kernel_rfl) (fun _ _ _ h=>h) (Or.inl ⟨by rfl,?_⟩) (by assumption) ?_
   ·intro V hSV
    obtain⟨l0,l1,l2⟩:=hSV
    go_simp
    try with_reducible rfl
   try simp only[Act.put,List.setIfInBounds_toArray,List.set_cons_zero,List.set_cons_succ]
   refine wpAnyH_take (i:=1) (v:=ptB (w.heap.size+1)) rfl (by kernel_rfl) (by kernel_rfl) (by kernel_rfl) (fun _ _ _ h=>h) (Or.inl ⟨by rfl,?_⟩) (by assumption) ?_
   ·intro V hSV
    obtain⟨l0,l1,l2⟩:=hSV
    go_simp
    try with_reducible rfl
   try simp only[Act.put,List.setIfInBounds_toArray,List.set_cons_zero,List.set_cons_succ]
   refine wpAnyH_take (i:=2) (v:=ptB (w.heap.size+1)) rfl (by kernel_rfl) (by kernel_rfl) (by kernel_rfl) (fun _ _ _ h=>h) (Or.inl ⟨by rfl,?_⟩) (by assumption) ?_
   ·intro V hSV
    obtain⟨l0,l1,l2⟩:=hSV
    go_simp
    try with_reducible rfl
   try simp only[Act.put,List.setIfInBounds_toArray,List.set_cons_zero,List.set_cons_succ]
   refine wpAnyH_take (i:=3) (v:= .map (some w.heap.size)) rfl (by kernel_rfl) (by kernel_rfl) (by kernel_rfl) (fun _ _ _ h=>h) (Or.inl ⟨by rfl,?_⟩) (by assumption) ?_
   ·intro V hSV
    obtain⟨l0,l1,l2⟩:=hSV
    go_simp
    try with_reducible rfl
   try simp only[Act.put,List.setIfInBounds_toArray,List.set_cons_zero,List.set_cons_succ]
   refine wpAnyH_take (i:=4) (v:=ptB wr.heap.size) rfl (by kernel_rfl) (by kernel_rfl) (by kernel_rfl) (fun _ _ _ h=>h) (Or.inl ⟨by rfl,?_⟩) (by assumption) ?_
   ·intro V hSV
    obtain⟨l0,l1,l2⟩:=hSV
    go_simp
    try with_reducible rfl
   try simp only[Act.put,List.setIfInBounds_toArray,List.set_cons_zero,List.set_cons_succ]
   refine wpAnyH_take (i:=5) (v:= .string path) rfl (by kernel_rfl) (by kernel_rfl) (by kernel_rfl) (fun _ _ _ h=>h) (Or.inl ⟨by rfl,?_⟩) (by assumption) ?_
   ·intro V hSV
    obtain⟨l0,l1,l2⟩:=hSV
    go_simp
    try with_reducible rfl
   try simp only[Act.put,List.setIfInBounds_toArray,List.set_cons_zero,List.set_cons_succ]
   refine wpAnyH_take (i:=7) (v:= .pointer (some ⟨wr.heap.size,1,none⟩)) rfl (by kernel_rfl) (by kernel_rfl) (by kernel_rfl) (fun _ _ _ h=>h) (Or.inl ⟨by rfl,?_⟩) (by assumption) ?_
   ·intro V hSV
    obtain⟨l0,l1,l2⟩:=hSV
    go_simp
    try with_reducible rfl
   try simp only[Act.put,List.setIfInBounds_toArray,List.set_cons_zero,List.set_cons_succ]
   refine wpAnyH_take (i:=8) (v:= .string text) rfl (by kernel_rfl) (by kernel_rfl) (by kernel_rfl) (fun _ _ _ h=>h) (Or.inl ⟨by rfl,?_⟩) (by assumption) ?_
   ·intro V hSV
    obtain⟨l0,l1,l2⟩:=hSV
    go_simp
    try with_reducible rfl
   try simp only[Act.put,List.setIfInBounds_toArray,List.set_cons_zero,List.set_cons_succ]
   refine wpAnyH_take (i:=9) (v:= .agg #[.string text,.map none,.bool false]) rfl (by kernel_rfl) (by kernel_rfl) (by kernel_rfl) (fun _ _ _ h=>h) (Or.inl ⟨by rfl,?_⟩) (by assumption) ?_
   ·intro V hSV
    obtain⟨l0,l1,l2⟩:=hSV
    go_simp
    try with_reducible rfl
   try simp only[Act.put,List.setIfInBounds_toArray,List.set_cons_zero,List.set_cons_succ]
   have hso:=HSS.out.1.bel.size
   refine wpAnyH_ready (rs:=[6,10]) (by kernel_rfl) (by simp) (AllReadyH.cons rfl (fun K hK=>?_) (AllReadyH.cons rfl (fun K hK=>?_) AllReadyH.nil))
   ·go_simp
    refine(HCl.out _).mono ?_
    rintro e w1 ⟨rfl,hb1⟩
    have HI1:Hid (NrI w path text fuel 0 w1∧SNr w.heap.size wr.heap.size path text w1):=⟨HSS.out.1.up hb1,HSS.out.2.up hb1⟩
    refine hK.out _ _ HI1.out.2 (fun hHeld=>?_)
    clear hK K hb1
    try simp only[Act.put,List.setIfInBounds_toArray,List.set_cons_zero,List.set_cons_succ]
    refine wpAnyH_ready (rs:=[10]) (by kernel_rfl) (by simp) (AllReadyH.cons rfl (fun K hK=>?_) AllReadyH.nil)
    have hb2:Below w1.heap.size w1 (w1.alloc (.cells (soC text) 62)):=(Below.refl _ w1).alloc (Nat.le_refl _) _
    have HP:Hid (NrI w path text fuel 0 (w1.alloc (.cells (soC text) 62))∧SNr w.heap.size wr.heap.size path text (w1.alloc (.cells (soC text) 62))∧w.heap.size+1<w1.heap.size∧w.heap.size<wr.heap.size∧(w1.alloc (.cells (soC text) 62)).heap[w1.heap.size]? =some (.cells (soC text) 62 (0,0))):=⟨HI1.out.1.up hb2,HI1.out.2.up hb2,(Array.getElem?_eq_some_iff.1 HI1.out.1.run).1,hlt2,heap_alloc_new _ _⟩
    clear hb2 HI1
    go_simp
    refine hK.out _ _ HP.out.2.1 (fun hHeld=>?_)
    clear hK K
    try simp only[Act.put,List.setIfInBounds_toArray,List.set_cons_zero,List.set_cons_succ]
    refine wpAnyH_ready (rs:=[11]) (by kernel_rfl) (by simp) (AllReadyH.cons rfl (fun K hK=>?_) AllReadyH.nil)
    obtain⟨w4,hu,hn4,hS4,_⟩:=NrI.put HP.out (by decide) hp rfl
    clear HP
    go_simp
    refine hK.out _ _ hS4 (fun hHeld=>?_)
    clear hK K
    refine wpAnyH_done (by kernel_rfl) ?_ _
    try simp only[Act.put,List.setIfInBounds_toArray,List.set_cons_zero,List.set_cons_succ]
    have HN4:Hid (NrI w path text fuel 1 w4):=hn4
    clear hn4 hu hS4
    go_wp2
    exact⟨⟨1,Nat.le_refl _,by simp,HN4⟩,by simp only[intOf];omega⟩
   ·go_simp
    have hb2:Below W.drew.heap.size W.drew (W.drew.alloc (.cells (soC text) 62)):=(Below.refl _ W.drew).alloc (Nat.le_refl _) _
    have HP0:Hid (NrI w path text fuel 0 (W.drew.alloc (.cells (soC text) 62))∧SNr w.heap.size wr.heap.size path text (W.drew.alloc (.cells (soC text) 62))∧w.heap.size+1<W.heap.size∧w.heap.size<wr.heap.size∧(W.drew.alloc (.cells (soC text) 62)).heap[W.heap.size]? =some (.cells (soC text) 62 (0,0))):=⟨HSS.out.1.up hb2,HSS.out.2.up hb2,(Array.getElem?_eq_some_iff.1 HSS.out.1.run).1,hlt2,heap_alloc_new _ _⟩
    refine hK.out _ _ HP0.out.2.1 (fun hHeld=>?_)
    clear hK K hb2
    try simp only[Act.put,List.setIfInBounds_toArray,List.set_cons_zero,List.set_cons_succ]
    refine wpAnyH_ready (rs:=[6]) (by kernel_rfl) (by simp) (AllReadyH.cons rfl (fun K hK=>?_) AllReadyH.nil)
    go_simp
    refine(HCl.out _).mono ?_
    rintro e w1 ⟨rfl,hb1⟩
    have HP:Hid (NrI w path text fuel 0 w1∧SNr w.heap.size wr.heap.size path text w1∧w.heap.size+1<W.heap.size∧w.heap.size<wr.heap.size∧w1.heap[W.heap.size]? =some (.cells (soC text) 62 (0,0))):=⟨HP0.out.1.up hb1,HP0.out.2.1.up hb1,HP0.out.2.2.1,hlt2,(hb1.block _ (Array.getElem?_eq_some_iff.1 HP0.out.2.2.2.2).1).trans HP0.out.2.2.2.2⟩
    refine hK.out _ _ HP.out.2.1 (fun hHeld=>?_)
    clear HP0 hb1
    clear hK K
    try simp only[Act.put,List.setIfInBounds_toArray,List.set_cons_zero,List.set_cons_succ]
    refine wpAnyH_ready (rs:=[11]) (by kernel_rfl) (by simp) (AllReadyH.cons rfl (fun K hK=>?_) AllReadyH.nil)
    obtain⟨w4,hu,hn4,hS4,_⟩:=NrI.put HP.out (by decide) hp rfl
    clear HP
    go_simp
    refine hK.out _ _ hS4 (fun hHeld=>?_)
    clear hK K
    refine wpAnyH_done (by kernel_rfl) ?_ _
    try simp only[Act.put,List.setIfInBounds_toArray,List.set_cons_zero,List.set_cons_succ]
    have HN4:Hid (NrI w path text fuel 1 w4):=hn4
    clear hn4 hu hS4
    go_wp2
    exact⟨⟨1,Nat.le_refl _,by simp,HN4⟩,by simp only[intOf];omega⟩
  ·obtain⟨sb,hsb1,mv1,hs1⟩:=HN.out.snd rfl
   have hr1:=HN.out.run
   have HBl:Hid (Below w.heap.size w wr):=HN.out.bel
   have hlt:=(Array.getElem?_eq_some_iff.1 hr1).1
   have HNB:=newB_any (w.heap.size+1) wr
   have hM0:=mv1.lt
   have hsl:=(Array.getElem?_eq_some_iff.1 hs1).1
   have HF:Hid (MV wr w.heap.size 1 [(path.data.toList,ptB sb)]∧wr.heap[w.heap.size+1]? =some (.cells (rn0 w.heap.size fuel) 52 (0,0))∧wr.heap[sb]? =some (.cells (soC text) 62 (0,0))):=⟨mv1,hr1,hs1⟩
   clear mv1 hr1 hs1 HN
   go_wp2_with fail
   refine HNB.mono ?_
   rintro e w2 ⟨Mb,rfl,hMb,hb2,HX2⟩
   have r2:=(hb2.block _ hlt).trans HF.out.2.1
   have c20:w2.cell? ⟨w.heap.size+1,1,none⟩=some (.map none):=by rw[Lib.cell_of_heap r2];rfl
   have f20:w2.frozen? ⟨w.heap.size+1,1,none⟩=false:=Lib.frozen_of_heap r2 1
   obtain⟨V,eV⟩:∃ V,V=w2.setCell ⟨w.heap.size+1,1,none⟩ (.map (some Mb)):=⟨_,rfl⟩
   have hVs:V.heap.size=w2.heap.size:=by rw[eV];exact size_set w2 _ _
   have rV:V.heap[w.heap.size+1]? =some (.cells #[.map (some w.heap.size),.map (some Mb),.map none,.int .i64 fuel,.slice none 0 0] 52 (0,0)):=by
    rw[eV,heap_setCell_same w2 (w.heap.size+1) 1 _ 52 _ r2]
    rfl
   have oV:∀ j,j≠w.heap.size+1→V.heap[j]? =w2.heap[j]? :=fun j hj=>by rw[eV];exact Below.heap_setCell _ ⟨w.heap.size+1,1,none⟩ _ j hj
   have bV:Below w.heap.size w V:=by rw[eV];exact(HBl.out.trans (hb2.mono (by omega))).setCell (p:=⟨w.heap.size+1,1,none⟩) (Nat.le_succ _) _
   have HNS:=newS_any (w.heap.size+1) V
   have hs2:=hb2.size
   have HW:Hid (V=w2.setCell ⟨w.heap.size+1,1,none⟩ (.map (some Mb))∧V.heap[w.heap.size+1]? =some (.cells #[.map (some w.heap.size),.map (some Mb),.map none,.int .i64 fuel,.slice none 0 0] 52 (0,0))∧(∀ j,j≠w.heap.size+1→V.heap[j]? =w2.heap[j]?)∧Below w.heap.size w V∧(∀ j,j<wr.heap.size→w2.heap[j]? =wr.heap[j]?)):=⟨eV,rV,oV,bV,hb2.block⟩
   rw[eV]at HNS
   clear r2 rV oV bV hb2 eV
   go_wp2_with fail
   refine HNS.mono ?_
   rintro e w3 ⟨Ms,rfl,hMs,mvs,hb3,hq3⟩
   obtain⟨eV,rV,oV,bV,o2⟩:=HW.out
   rw[←eV]at hMs mvs hb3 hq3
   have r3:=(hb3.block _ (by omega)).trans rV
   have c30:w3.cell? ⟨w.heap.size+1,2,none⟩=some (.map none):=by rw[Lib.cell_of_heap r3];rfl
   have f30:w3.frozen? ⟨w.heap.size+1,2,none⟩=false:=Lib.frozen_of_heap r3 2
   have o4:∀ j,j≠w.heap.size+1→(w3.setCell ⟨w.heap.size+1,2,none⟩ (.map (some Ms))).heap[j]? =w3.heap[j]? :=fun j hj=>Below.heap_setCell _ ⟨w.heap.size+1,2,none⟩ _ j hj
   have o5:∀ j,j≠w.heap.size+1→j<w2.heap.size→(w3.setCell ⟨w.heap.size+1,2,none⟩ (.map (some Ms))).heap[j]? =w2.heap[j]? :=fun j hj hl=>(o4 j hj).trans ((hb3.block j (by omega)).trans (oV j hj))
   have HZ:Hid (RnI w.heap.size w (w3.setCell ⟨w.heap.size+1,2,none⟩ (.map (some Ms))) (w.heap.size+1) path text fuel):=by
    obtain⟨k,E,p,m1,_,m2,m3⟩:=HX2
    have hMl:=m1.lt
    refine⟨⟨w.heap.size,sb,Mb,Ms,V.heap.size,?_,?_,?_,⟨k,E,p,?_,m2,?_⟩,?_,?_,hMs,by omega,by omega,by omega,by omega,by omega,by omega⟩,(bV.trans (hb3.mono (by omega))).setCell (p:=⟨w.heap.size+1,2,none⟩) (Nat.le_succ _) _⟩
    ·rw[heap_setCell_same w3 (w.heap.size+1) 2 _ 52 _ r3]
     rfl
    ·exact omapV HF.out.1 ((o5 _ (by omega) (by omega)).trans (o2 _ hM0))
    ·exact((o5 _ (by omega) (by omega)).trans (o2 _ hsl)).trans HF.out.2.2
    ·exact omapV m1 (o5 _ (by omega) hMl)
    ·have hp:=(Array.getElem?_eq_some_iff.1 m3.2).1
     have:=m3.1
     exact⟨by omega,(o5 _ (by omega) hp).trans m3.2⟩
    ·exact omapV mvs (o4 _ (by omega))
    ·exact(o4 _ (by omega)).trans hq3
   clear hq3 mvs hMs hb3 r3 rV oV o2 o4 o5 eV bV HW HF HX2 hMb
   go_wp2
   go_ret
   exact⟨_,rfl,HZ.out⟩
end Go.Proofs.YthfgpkdbclogpaaGreatDoor
