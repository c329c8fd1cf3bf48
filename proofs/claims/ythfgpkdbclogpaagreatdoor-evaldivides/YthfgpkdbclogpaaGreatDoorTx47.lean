/- 47. -/
import Derived.Shelf.Strings.Split
import Derived.Test.YthfgpkdbclogpaaGreatDoorTx46
set_option maxHeartbeats 40000000
set_option maxRecDepth 100000
namespace Go.Proofs.YthfgpkdbclogpaaGreatDoor
open Go.RowKit Go.Shelf
section
variable {env:EnvV} {d f f1 f2 f3:Nat} {A B x y:Int} {a b:Ex} {t:List UInt8} {c:UInt8} {v:Va} {p q:Bool}
theorem ev_nm (h:env [c]=some v):evE env (d+1) (nmX c) (f+1)=some (.ok v,f):=by
 show(env [c]).map (fun v=>((Except.ok v,f):Rs))=_
 rw[h]
 rfl
theorem ev_i0:evE env (d+1) ⟨4,0,[],[],[]⟩ (f+1)=some (.ok (.inl 0),f):=rfl
theorem ev_two (h1:evE env d a f1=some (.ok (.inl x),f2))(h2:evE env d b f2=some (.ok (.inl y),f3))(n1:¬t=[111,114])(n2:¬t=[97,110,100]):evE env (d+1) (biX t a b) (f1+1)=sgE t x y f3:=by
 show fstE t (evE env d a f1) (fun m=>evE env d b m)=_
 rw[h1]
 show biE t (.inl x) f2 (evE env d b f2)=_
 rw[h2]
 unfold biE
 rw[if_neg n1,if_neg n2]
theorem ev_and (h1:evE env d a f1=some (.ok (.inr p),f2))(h2:p=true→evE env d b f2=some (.ok (.inr q),f3)):∃ f4,evE env (d+1) (biX [97,110,100] a b) (f1+1)=some (.ok (.inr (p&&q)),f4)∧(f4=f2∨f4=f3):=by
 have e:evE env (d+1) (biX [97,110,100] a b) (f1+1)=fstE [97,110,100] (evE env d a f1) (fun m=>evE env d b m):=rfl
 rw[e,h1]
 cases p with
 |false=>exact⟨f2,rfl,.inl rfl⟩
 |true=>
  refine⟨f3,?_,.inr rfl⟩
  show secE (evE env d b f2)=_
  rw[h2 rfl]
  rfl
theorem ev_or (h1:evE env d a f1=some (.ok (.inr p),f2))(h2:p=false→evE env d b f2=some (.ok (.inr q),f3)):∃ f4,evE env (d+1) (biX [111,114] a b) (f1+1)=some (.ok (.inr (p||q)),f4)∧(f4=f2∨f4=f3):=by
 have e:evE env (d+1) (biX [111,114] a b) (f1+1)=fstE [111,114] (evE env d a f1) (fun m=>evE env d b m):=rfl
 rw[e,h1]
 cases p with
 |true=>exact⟨f2,rfl,.inl rfl⟩
 |false=>
  refine⟨f3,?_,.inr rfl⟩
  show secE (evE env d b f2)=_
  rw[h2 rfl]
  rfl
theorem num_in (h1:-9007199254740991≤x)(h2:x≤9007199254740991):numE x f=some (.ok (.inl x),f):=by
 unfold numE inR
 rw[decide_eq_true h1,decide_eq_true h2]
 rfl
structure AB (env:EnvV)(A B:Int):Prop where
 a:env [97]=some (.inl A)
 b:env [98]=some (.inl B)
 a1:-1000000≤A∧A≤1000000
 b1:-1000000≤B∧B≤1000000
 n:B≠0
theorem AB.rb (h:AB env A B):(0<B→0≤A.fmod B∧A.fmod B<B)∧(B<0→B<A.fmod B∧A.fmod B≤0):=by
 have hn:=h.n
 have hm:=Int.mul_fdiv_add_fmod A B
 refine⟨fun hp=>⟨Int.fmod_nonneg_of_pos A hp,Int.fmod_lt_of_pos A hp⟩,fun hp=>?_⟩
 have h1:=Int.neg_fmod_neg A B
 have h2:=Int.fmod_nonneg_of_pos (-A) (b:=-B) (by omega)
 have h3:=Int.fmod_lt_of_pos (-A) (b:=-B) (by omega)
 omega
theorem AB.qb (h:AB env A B):-3000000≤A.fdiv B∧A.fdiv B≤3000000:=by
 obtain⟨r1,r2⟩:=h.rb
 have hn:=h.n
 have ha:=h.a1
 have hb:=h.b1
 have hm:=Int.mul_fdiv_add_fmod A B
 have h1:(B*A.fdiv B).natAbs≤2000000:=by
  rcases Int.lt_or_gt_of_ne hn with hp|hp
  ·have:=r2 hp;omega
  ·have:=r1 hp;omega
 rw[Int.natAbs_mul]at h1
 have h2:(A.fdiv B).natAbs≤B.natAbs*(A.fdiv B).natAbs:=Nat.le_mul_of_pos_left _ (by omega)
 omega
theorem ev_rs (h:AB env A B):evE env (d+2) rsX (f+3)=some (.ok (.inl (A.fmod B)),f):=by
 refine(ev_two (ev_nm h.a) (ev_nm h.b) (by decide) (by decide)).trans ?_
 show(if B=0 then _ else numE (A.fmod B) f)=_
 obtain⟨r1,r2⟩:=h.rb
 have hb:=h.b1
 have hn:=h.n
 rw[if_neg hn,num_in (by omega) (by omega)]
theorem ev_quo (h:AB env A B):evE env (d+2) (biX [47,47] (nmX 97) (nmX 98)) (f+3)=some (.ok (.inl (A.fdiv B)),f):=by
 refine(ev_two (ev_nm h.a) (ev_nm h.b) (by decide) (by decide)).trans ?_
 show(if B=0 then _ else numE (A.fdiv B) f)=_
 have:=h.qb
 rw[if_neg h.n,num_in (by omega) (by omega)]
theorem ev_fst (h:AB env A B):evE env (d+5) fstX (f+12)=some (.ok (.inr true),f):=by
 have hm:=Int.mul_fdiv_add_fmod A B
 have hc:=Int.mul_comm B (A.fdiv B)
 obtain⟨r1,r2⟩:=h.rb
 have ha:=h.a1
 have hb:=h.b1
 have hn:=h.n
 have h1:evE env (d+3) (biX [42] (biX [47,47] (nmX 97) (nmX 98)) (nmX 98)) (f+10)=some (.ok (.inl (A.fdiv B*B)),f+5):=by
  refine(ev_two (ev_quo h) (ev_nm h.b) (by decide) (by decide)).trans ?_
  show numE (A.fdiv B*B) (f+5)=_
  exact num_in (by omega) (by omega)
 have h2:evE env (d+4) (biX [43] (biX [42] (biX [47,47] (nmX 97) (nmX 98)) (nmX 98)) rsX) (f+11)=some (.ok (.inl A),f+2):=by
  refine(ev_two h1 (ev_rs h) (by decide) (by decide)).trans ?_
  show numE (A.fdiv B*B+A.fmod B) (f+2)=_
  rw[show A.fdiv B*B+A.fmod B=A by omega]
  exact num_in (by omega) (by omega)
 refine(ev_two h2 (ev_nm h.a) (by decide) (by decide)).trans ?_
 show(if f+1=0 then none else some ((Except.ok (.inr (A==A)),f+1-1):Rs))=_
 rw[if_neg (Nat.succ_ne_zero f)]
 simp
theorem ev_snd (h:AB env A B):∃ m,evE env (d+5) sndX (f+30)=some (.ok (.inr true),m)∧m≤f+30:=by
 obtain⟨r1,r2⟩:=h.rb
 have hn:=h.n
 have l1:∀ g,evE env (d+3) (biX [60,61] ⟨4,0,[],[],[]⟩ rsX) (g+5)=some (.ok (.inr (decide (0≤A.fmod B))),g):=fun g=>(ev_two ev_i0 (ev_rs h) (by decide) (by decide)).trans rfl
 have l2:∀ g,evE env (d+3) (biX [60] rsX (nmX 98)) (g+5)=some (.ok (.inr (decide (A.fmod B<B))),g):=fun g=>(ev_two (ev_rs h) (ev_nm h.b) (by decide) (by decide)).trans rfl
 have l3:∀ g,evE env (d+3) (biX [60,61] rsX ⟨4,0,[],[],[]⟩) (g+5)=some (.ok (.inr (decide (A.fmod B≤0))),g):=fun g=>(ev_two (ev_rs h) ev_i0 (by decide) (by decide)).trans rfl
 have l4:∀ g,evE env (d+3) (biX [60] (nmX 98) rsX) (g+5)=some (.ok (.inr (decide (B<A.fmod B))),g):=fun g=>(ev_two (ev_nm h.b) (ev_rs h) (by decide) (by decide)).trans rfl
 obtain⟨m1,k1,k2⟩:=ev_and (l1 (f+23)) (fun _=>l2 (f+18))
 have hm1:∃ g,m1=g+11∧g≤f+12:=by
  rcases k2 with rfl|rfl
  ·exact⟨f+12,rfl,Nat.le_refl _⟩
  ·exact⟨f+7,rfl,by omega⟩
 obtain⟨g,rfl,hg⟩:=hm1
 obtain⟨m2,k3,k4⟩:=ev_and (l3 (g+5)) (fun _=>l4 g)
 obtain⟨m3,k5,k6⟩:=ev_or k1 (fun _=>k3)
 refine⟨m3,k5.trans ?_,by rcases k6 with rfl|rfl<;>rcases k4 with rfl|rfl<;>omega⟩
 have e:((decide (0≤A.fmod B)&&decide (A.fmod B<B))||(decide (A.fmod B≤0)&&decide (B<A.fmod B)))=true:=by
  rcases Int.lt_or_gt_of_ne hn with hp|hp
  ·have:=r2 hp
   rw[decide_eq_true this.1,decide_eq_true this.2]
   simp
  ·have:=r1 hp
   rw[decide_eq_true this.1,decide_eq_true this.2]
   rfl
 rw[e]
theorem ev_div (h:AB env A B):∃ m,evE env (d+6) divX (f+43)=some (.ok (.inr true),m)∧m≤f+43:=by
 obtain⟨m,k1,k2⟩:=ev_snd (d:=d) (f:=f) h
 obtain⟨m2,k3,k4⟩:=ev_and (ev_fst (f:=f+30) h) (fun _=>k1)
 exact⟨m2,k3,by rcases k4 with rfl|rfl<;>omega⟩
end
def intV (neg:Bool)(n:Nat):Int:=bif neg then -(n:Int)else n
theorem ev_in (env:EnvV)(neg:Bool){n:Nat}(hn:n≤1000000)(d f:Nat):∃ m,evE env (d+2) (inX neg n) (f+2)=some (.ok (.inl (intV neg n)),m)∧f≤m∧m≤f+2:=by
 cases neg with
 |false=>
  refine⟨f+1,?_,by omega,by omega⟩
  show(if n≤9007199254740991 then some ((Except.ok (.inl (n:Int)),f+1):Rs)else none)=_
  rw[if_pos (by omega)]
  rfl
 |true=>
  refine⟨f,?_,by omega,by omega⟩
  show minE (if n≤9007199254740991 then some ((Except.ok (.inl (n:Int)),f):Rs)else none)=_
  rw[if_pos (by omega)]
  rfl
abbrev divE (A B:Int):List (List UInt8×Value):=[([120],trV true),([98],nmV B),([97],nmV A)]
theorem div_tr (na:Bool){a:Nat}(ha:a≤1000000)(nb:Bool){b:Nat}(hb:b≤1000000)(h0:b≠0):∃ m,trE (divS na a nb b) (fun _=>none) [] 100000=some (.ok (divE (intV na a) (intV nb b),m))∧m≤100000:=by
 obtain⟨m1,k1,k2,k3⟩:=ev_in (fun _=>none) na ha 18 99997
 obtain⟨m1,rfl⟩:∃ j,m1=j+3:=⟨m1-3,by omega⟩
 obtain⟨m2,k4,k5,k6⟩:=ev_in (putV (fun _=>none) [97] (.inl (intV na a))) nb hb 18 m1
 obtain⟨m2,rfl⟩:∃ j,m2=j+43+1:=⟨m2-44,by omega⟩
 have hi:∀ (g:Bool) (n:Nat),n≤1000000→-1000000≤intV g n∧intV g n≤1000000:=fun g n hn=>by
  unfold intV
  cases g<;>simp<;>omega
 obtain⟨m3,k7,k8⟩:=ev_div (env:=putV (putV (fun _=>none) [97] (.inl (intV na a))) [98] (.inl (intV nb b))) (d:=14) (f:=m2) (A:=intV na a) (B:=intV nb b) ⟨rfl,rfl,hi na a ha,hi nb b hb,by unfold intV;cases nb<;>simp<;>omega⟩
 refine⟨m3,?_,by omega⟩
 show(match evE (fun _=>none) 20 (inX na a) 99999 with|some (.ok v,m)=>_|some (.error k,_)=>_|none=>_)=_
 rw[k1]
 show(match evE (putV (fun _=>none) [97] (.inl (intV na a))) 20 (inX nb b) (m1+2)with|some (.ok v,m)=>_|some (.error k,_)=>_|none=>_)=_
 rw[k4]
 show(match evE (putV (putV (fun _=>none) [97] (.inl (intV na a))) [98] (.inl (intV nb b))) 20 divX (m2+43)with|some (.ok v,m)=>_|some (.error k,_)=>_|none=>_)=_
 rw[k7]
 rfl
theorem ev_er {env:EnvV}{d f k m:Nat}{t:List UInt8}{a b:Ex}(h:evE env d a f=some (.error k,m)):evE env (d+1) (biX t a b) (f+1)=some (.error k,m):=by
 show fstE t (evE env d a f) (fun m=>evE env d b m)=_
 rw[h]
 rfl
theorem div_no (na:Bool){a:Nat}(ha:a≤1000000)(nb:Bool):trE (divS na a nb 0) (fun _=>none) [] 100000=some (.error 3):=by
 obtain⟨m1,k1,k2,k3⟩:=ev_in (fun _=>none) na ha 18 99997
 obtain⟨m1,rfl⟩:∃ j,m1=j+3:=⟨m1-3,by omega⟩
 obtain⟨m2,k4,k5,k6⟩:=ev_in (putV (fun _=>none) [97] (.inl (intV na a))) nb (n:=0) (by decide) 18 m1
 obtain⟨m2,rfl⟩:∃ j,m2=j+43+1:=⟨m2-44,by omega⟩
 have h0:intV nb 0=0:=by cases nb<;>rfl
 have q:evE (putV (putV (fun _=>none) [97] (.inl (intV na a))) [98] (.inl (intV nb 0))) 16 (biX [47,47] (nmX 97) (nmX 98)) (m2+39)=some (.error 3,m2+36):=by
  refine(ev_two (f1:=m2+38) (f2:=m2+37) (ev_nm (v:= .inl (intV na a)) rfl) (ev_nm (v:= .inl (intV nb 0)) rfl) (by decide) (by decide)).trans ?_
  show(if intV nb 0=0 then _ else _)=_
  rw[if_pos h0]
 have k7:evE (putV (putV (fun _=>none) [97] (.inl (intV na a))) [98] (.inl (intV nb 0))) 20 divX (m2+43)=some (.error 3,m2+36):=ev_er (ev_er (ev_er (ev_er q)))
 show(match evE (fun _=>none) 20 (inX na a) 99999 with|some (.ok v,m)=>_|some (.error k,_)=>_|none=>_)=_
 rw[k1]
 show(match evE (putV (fun _=>none) [97] (.inl (intV na a))) 20 (inX nb 0) (m1+2)with|some (.ok v,m)=>_|some (.error k,_)=>_|none=>_)=_
 rw[k4]
 show(match evE (putV (putV (fun _=>none) [97] (.inl (intV na a))) [98] (.inl (intV nb 0))) 20 divX (m2+43)with|some (.ok v,m)=>_|some (.error k,_)=>_|none=>_)=_
 rw[k7]
theorem div_parR (na:Bool){a:Nat}(ha:a<1000000)(nb:Bool){b:Nat}(hb:b<1000000):parR (lnB (divL na a nb b))=some (.ok (divS na a nb b)):=by
 obtain⟨toks,q,h1,h2⟩:=div_par na ha nb hb
 unfold parR
 rw[h1]
 simp only[h2]
def parts:List UInt8→List UInt8→List (List UInt8)
 |cur,[]=>[cur]
 |cur,c::l=>if c=47 then cur::parts [] l else parts (cur++[c]) l
theorem parts_len (l:List UInt8):∀ cur,(parts cur l).length≤l.length+1:=by
 induction l with
 |nil=>intro cur;exact Nat.le_refl _
 |cons c l ih=>
  intro cur
  unfold parts
  by_cases h:c=47
  ·rw[if_pos h];have:=ih [];simp only[List.length_cons];omega
  ·rw[if_neg h];have:=ih (cur++[c]);simp only[List.length_cons];omega
theorem parts_mem (l:List UInt8):∀ cur,∀ p∈parts cur l,p.length≤cur.length+l.length:=by
 induction l with
 |nil=>intro cur p hp;obtain rfl:=List.mem_singleton.1 hp;simp
 |cons c l ih=>
  intro cur p hp
  unfold parts at hp
  by_cases h:c=47
  ·rw[if_pos h]at hp
   rcases List.mem_cons.1 hp with rfl|hp
   ·simp
   ·have:=ih [] p hp;simp only[List.length_cons,List.length_nil]at *;omega
  ·rw[if_neg h]at hp
   have:=ih _ p hp
   simp only[List.length_append,List.length_cons,List.length_nil]at *
   omega
theorem parts_miss (s:List UInt8):∀ cur,Lib.indexByte s 47=-1→parts cur s=[cur++s]:=by
 induction s with
 |nil=>intro cur _;simp[parts]
 |cons b l ih=>
  intro cur h
  unfold Lib.indexByte at h
  by_cases hb:b=47
  ·rw[hb]at h;simp at h
  ·have hb':(b==47)=false:=beq_eq_false_iff_ne.2 hb
   rw[hb']at h
   unfold parts
   rw[if_neg hb]
   have hl:Lib.indexByte l 47=-1:=by
    by_cases h1:Lib.indexByte l 47=-1
    ·exact h1
    ·have:=Lib.indexByte_ge l 47
     simp[h1]at h
     omega
   rw[ih _ hl]
   simp
theorem parts_hit (s:List UInt8):∀ cur (i:Nat),Lib.indexByte s 47=i→parts cur s=(cur++s.take i)::parts [] (s.drop (i+1)):=by
 induction s with
 |nil=>intro cur i h;simp[Lib.indexByte]at h
 |cons b l ih=>
  intro cur i h
  unfold Lib.indexByte at h
  by_cases hb:b=47
  ·subst hb
   simp at h
   obtain rfl:i=0:=by omega
   simp[parts]
  ·have hb':(b==47)=false:=beq_eq_false_iff_ne.2 hb
   rw[hb']at h
   show(if b=47 then cur::parts [] l else parts (cur++[b]) l)=_
   rw[if_neg hb]
   have hge:=Lib.indexByte_ge l 47
   by_cases h1:Lib.indexByte l 47=-1
   ·simp[h1]at h
   ·simp[h1]at h
    obtain⟨k,rfl⟩:∃ k,i=k+1:=⟨i-1,by omega⟩
    rw[ih (cur++[b]) k (by omega)]
    simp
theorem split_parts:∀ (n:Nat) (s:List UInt8),s.length≤n→Lib.splitK [47] 0 (Lib.count s [47]) s=parts [] s:=by
 intro n
 induction n with
 |zero=>
  intro s hs
  obtain rfl:s=[]:=List.length_eq_zero_iff.1 (by omega)
  rfl
 |succ n ih=>
  intro s hs
  by_cases h:Lib.index s [47]=-1
  ·rw[Lib.count_miss h,parts_miss s [] (by rw[←Lib.index_one];exact h)]
   rfl
  ·have hge:=Lib.index_ge s [47]
   obtain⟨i,hi⟩:∃ i:Nat,Lib.index s [47]=i:=⟨(Lib.index s [47]).toNat,by omega⟩
   have hm:¬(Lib.index s [47]==-1)=true:=fun e=>h (beq_iff_eq.1 e)
   have hr:=Lib.index_room s [47] (by omega)
   rw[Lib.count_hit (by simp) hi,Nat.add_comm,Lib.splitK,if_neg hm,hi]
   have e:((i:Int)).toNat=i:=by omega
   rw[e,parts_hit s [] i (by rw[←Lib.index_one];exact hi)]
   rw[hi]at hr
   have hd:(s.drop (i+1)).length≤n:=by rw[List.length_drop];simp at hr;omega
   rw[show([47]:List UInt8).length=1 from rfl,ih _ hd]
   simp
abbrev slash:ByteArray:=⟨#[47]⟩
def piecesB (s:ByteArray):List ByteArray:=(parts [] s.data.toList).map fun p=>⟨p.toArray⟩
theorem splitB_pieces (s:ByteArray):Lib.splitB slash 0 (Lib.countB s slash) s=piecesB s:=by
 have h:=Lib.splitB_data slash 0 (Lib.countB s slash) s
 have h2:Lib.splitK slash.data.toList 0 (Lib.countB s slash) s.data.toList=parts [] s.data.toList:=split_parts _ _ (Nat.le_refl _)
 rw[h2]at h
 unfold piecesB
 rw[←h,List.map_map]
 conv=>lhs;rw[←List.map_id (Lib.splitB slash 0 (Lib.countB s slash) s)]
 exact List.map_congr_left fun x _=>rfl
def pathOk (s:ByteArray):Bool:=decide (s.size≤100)&&(piecesB s).all nameOk
def laysS_ren:Ren:=⟨fun|138=>160|143=>135|146=>84|195=>192|197=>193|217=>208|218=>194|219=>172|221=>122|224=>210|225=>209|260=>229|266=>235|267=>211|268=>159|314=>236|n=>n,fun|0=>0|3=>3|4=>4|5=>5|9=>9|21=>21|31=>37|46=>169|51=>206|105=>239|119=>283|138=>285|139=>286|146=>271|n=>n,fun|1=>0|3=>2|4=>3|n=>n⟩
theorem laysS:Go.Proofs.Lays.n146 Tryz.prog laysS_ren:={
 mixed:=by kernel_rfl
 f138:=Tryz.func160.trans (congrArg some (by kernel_rfl))
 f143:=Tryz.func135.trans (congrArg some (by kernel_rfl))
 f146:=Tryz.func84.trans (congrArg some (by kernel_rfl))
 f195:=Tryz.func192.trans (congrArg some (by kernel_rfl))
 f197:=Tryz.func193.trans (congrArg some (by kernel_rfl))
 f217:=Tryz.func208.trans (congrArg some (by kernel_rfl))
 f218:=Tryz.func194.trans (congrArg some (by kernel_rfl))
 f219:=Tryz.func172.trans (congrArg some (by kernel_rfl))
 f221:=Tryz.func122.trans (congrArg some (by kernel_rfl))
 f224:=Tryz.func210.trans (congrArg some (by kernel_rfl))
 f225:=Tryz.func209.trans (congrArg some (by kernel_rfl))
 f260:=Tryz.func229.trans (congrArg some (by kernel_rfl))
 f266:=Tryz.func235.trans (congrArg some (by kernel_rfl))
 f267:=Tryz.func211.trans (congrArg some (by kernel_rfl))
 f268:=Tryz.func159.trans (congrArg some (by kernel_rfl))
 f314:=Tryz.func236.trans (congrArg some (by kernel_rfl))
 t0:=Tryz.underlying0
 a0:=Tryz.isAgg0
 z0:=Tryz.sizeOf0
 v0:=Tryz.zeroValue0
 t3:=Tryz.underlying3
 a3:=Tryz.isAgg3
 z3:=Tryz.sizeOf3
 v3:=Tryz.zeroValue3
 t4:=Tryz.underlying4
 a4:=Tryz.isAgg4
 z4:=Tryz.sizeOf4
 v4:=Tryz.zeroValue4
 t5:=Tryz.underlying5
 a5:=Tryz.isAgg5
 z5:=Tryz.sizeOf5
 v5:=Tryz.zeroValue5
 t9:=Tryz.underlying9
 a9:=Tryz.isAgg9
 z9:=Tryz.sizeOf9
 v9:=Tryz.zeroValue9
 t21:=Tryz.underlying21
 a21:=Tryz.isAgg21
 z21:=Tryz.sizeOf21
 v21:=Tryz.zeroValue21
 t31:=Tryz.underlying37
 a31:=Tryz.isAgg37
 z31:=Tryz.sizeOf37
 v31:=Tryz.zeroValue37
 t46:=Tryz.underlying169
 a46:=Tryz.isAgg169
 z46:=Tryz.sizeOf169
 v46:=Tryz.zeroValue169
 t51:=Tryz.underlying206
 a51:=Tryz.isAgg206
 z51:=Tryz.sizeOf206
 v51:=Tryz.zeroValue206
 t105:=Tryz.underlying239
 a105:=Tryz.isAgg239
 z105:=Tryz.sizeOf239
 v105:=Tryz.zeroValue239
 t119:=Tryz.underlying283
 a119:=Tryz.isAgg283
 z119:=Tryz.sizeOf283
 t138:=Tryz.underlying285
 a138:=Tryz.isAgg285
 z138:=Tryz.sizeOf285
 v138:=Tryz.zeroValue285
 t139:=Tryz.underlying286
 a139:=Tryz.isAgg286
 z139:=Tryz.sizeOf286
 v139:=Tryz.zeroValue286
 t146:=Tryz.underlying271
 a146:=Tryz.isAgg271
 z146:=Tryz.sizeOf271
 v146:=Tryz.zeroValue271
 g1:=by kernel_rfl
 g3:=by kernel_rfl
 g4:=by kernel_rfl}
def MaxIs (w:World):Prop:=∃ m,w.cell? ⟨0,0,none⟩=some (.int .i64 m)
theorem MaxIs.below {B:Nat}{w w':World}(h:MaxIs w)(hb:Below B w w')(hB:0<B):MaxIs w':=by
 obtain⟨m,hm⟩:=h
 exact⟨m,(hb.cell (p:=⟨0,0,none⟩) hB).trans hm⟩
theorem MaxIs.lt {w:World}(h:MaxIs w):0<w.heap.size:=by
 obtain⟨m,hm⟩:=h
 exact World.block_lt_of_cell? w ⟨0,0,none⟩ hm
theorem MaxIs.up {w w':World}(h:MaxIs w)(hb:Below w.heap.size w w'):MaxIs w':=h.below hb h.lt
theorem split_anyP (s:ByteArray)(w:World)(hs:s.size<4294967281)(hm:MaxIs w):
  Calls Tryz.prog 84 #[.string s,.string slash] w fun e w'=>e= .returned (.slice (some ⟨w.heap.size,0,none⟩) (piecesB s).length (piecesB s).length)∧w'=w.alloc (.cells ((piecesB s).map Value.string).toArray 9):=by
 obtain⟨m,hm⟩:=hm
 have h:=Any.strings_Split laysS (by kernel_rfl) s slash m w hs hm (by decide)
 have e1:=Lib.splitB_all slash (by decide) 0 (Lib.countB s slash) s rfl
 rw[splitB_pieces]at e1
 rw[splitB_pieces,←e1]at h
 exact h
theorem pieces_len (s:ByteArray):(piecesB s).length≤s.size+1:=by
 have:=parts_len s.data.toList []
 rw[show s.size=s.data.toList.length from size_of rfl]
 simpa[piecesB]using this
theorem pieces_size (s:ByteArray):∀ p∈piecesB s,p.size≤s.size:=by
 intro p hp
 obtain⟨q,hq,rfl⟩:=List.mem_map.1 hp
 have:=parts_mem s.data.toList [] q hq
 rw[show(⟨q.toArray⟩:ByteArray).size=q.length from size_of rfl,show s.size=s.data.toList.length from size_of rfl]
 simpa using this
theorem all_no (l:List ByteArray)(k:Nat)(hk:k<l.length)(h:nameOk l[k]=false):l.all nameOk=false:=by
 rw[List.all_eq_false]
 exact⟨l[k],List.getElem_mem hk,by simp[h]⟩
theorem all_yes (l:List ByteArray)(h:∀ j (hj:j<l.length),nameOk l[j]=true):l.all nameOk=true:=by
 rw[List.all_eq_true]
 intro x hx
 obtain⟨j,hj,rfl⟩:=List.getElem_of_mem hx
 exact h j hj
theorem IsPath_any (s:ByteArray)(w:World)(hm:MaxIs w):
  Calls Tryz.prog 32 #[.string s] w fun e w'=>e= .returned (.bool (pathOk s))∧Below w.heap.size w w':=by
 by_cases hsz:100<s.size
 ·have hz:(100:Int)<(s.size:Int):=by omega
  have HP:Hid (pathOk s=false):=by show _=_;unfold pathOk;rw[decide_eq_false (by omega),Bool.false_and]
  go_enter Tryz.func32,Tryz.ntmps32
  go_wp2
  go_ret
  exact⟨by rw[HP.out];rfl,Below.refl _ _⟩
 have hz:(s.size:Int)≤100:=by omega
 have hs:s.size≤100:=by omega
 have HM:Hid (MaxIs w):=hm
 have HP:Hid (pathOk s=(piecesB s).all nameOk):=by show _=_;unfold pathOk;rw[decide_eq_true hs,Bool.true_and]
 have HL:Hid (∀ p∈piecesB s,p.size≤maxLen):=fun p hp=>by
  have:=pieces_size s p hp
  unfold maxLen
  omega
 have hpl:=pieces_len s
 have HC:Hid (∀ j (hj:j<(piecesB s).length),(w.alloc (.cells ((piecesB s).map Value.string).toArray 9)).cell? ⟨w.heap.size,0+j,none⟩=some (.string (piecesB s)[j])):=fun j hj=>by
  rw[Lib.cell_of_heap (heap_alloc_new w _)]
  simp[hj]
 have HB:Hid (Below w.heap.size w (w.alloc (.cells ((piecesB s).map Value.string).toArray 9))):=(Below.refl _ _).alloc (Nat.le_refl _) _
 have hpl1:((piecesB s).length:Int)≤101:=by omega
 go_enter Tryz.func32,Tryz.ntmps32
 go_wp2_with fail
 refine(split_anyP s w (by omega) HM.out).mono ?_
 rintro e w1 ⟨rfl,rfl⟩
 generalize hps:piecesB s=ps at HP HL hpl HC HB hpl1
 clear hps
 generalize hw1:w.alloc (.cells (ps.map Value.string).toArray 9)=w1 at HC HB
 clear hw1
 go_wp2_with fail
 go_loopw [11] (fun i wr=>∃ k:Nat,k≤ps.length∧i= .int .i64 k∧(∀ j,(hj:j<ps.length)→j<k→nameOk ps[j]=true)∧wr=w1) (fun i _=>ps.length-(intOf i).toNat)
 case atStart=>exact⟨0,by omega,rfl,by omega,rfl⟩
 case round=>
  obtain⟨k,hk,rfl,hlo,rfl⟩:=hrel
  have HLO:Hid _:=hlo
  clear hlo
  by_cases hlt:k<ps.length
  ·have c0:=HC.out k hlt
   rw[Nat.zero_add]at c0
   have i2:(k:Int)<ps.length:=by omega
   by_cases h1:nameOk ps[k]=true
   ·go_wp2_with fail
    refine(IsName_any ps[k] _ (HL.out _ (List.getElem_mem hlt))).mono ?_
    rintro e w2 ⟨rfl,rfl⟩
    rw[h1]
    go_wp2
    refine⟨⟨k+1,by omega,by go_num,fun j hj hjk=>?_,by simp⟩,by simp[intOf];omega⟩
    by_cases h:j<k
    ·exact HLO.out j hj h
    ·obtain rfl:j=k:=by omega
     assumption
   ·have h1':nameOk ps[k]=false:=by simpa using h1
    have H1:Hid _:=h1'
    clear h1
    go_wp2_with fail
    refine(IsName_any ps[k] _ (HL.out _ (List.getElem_mem hlt))).mono ?_
    rintro e w2 ⟨rfl,rfl⟩
    rw[h1']
    go_wp2
    go_ret
    exact⟨by rw[HP.out,all_no ps k hlt H1.out];rfl,HB.out⟩
  ·go_wp2
   go_ret
   exact⟨by rw[HP.out,all_yes ps (fun j hj=>HLO.out j hj (by omega))];rfl,HB.out⟩
end Go.Proofs.YthfgpkdbclogpaaGreatDoor
namespace Go.Proofs.YthfgpkdbclogpaaGreatDoor
open Go.RowKit Go.Maps Go.Shelf
abbrev kMain:ByteArray:=⟨#[109,97,105,110]⟩
abbrev kA:ByteArray:=⟨#[97]⟩
theorem path_main:pathOk kMain=true:=by decide +kernel
theorem path_a:pathOk kA=true:=by decide +kernel
theorem run_beg {g cap:Nat}{w:World}(h:OneF g kA (mkB begL) w)(hr:ErrR w)(hT:TabE w)(hm:MaxIs w):
  Calls Tryz.prog 8 #[.slice (some ⟨g,0,none⟩) 1 cap,.string kA,.int .i64 100] w fun e w'=>∃ tb tc gb gc,e= .returned (.tuple #[.slice (some ⟨tb,0,none⟩) 1 tc,.slice (some ⟨gb,0,none⟩) 1 gc,.int .i64 4,.int .i64 0])∧w'.cell? ⟨tb,0,none⟩=some (.string bT)∧w'.cell? ⟨gb,1,none⟩=some (.string bT)∧Below w.heap.size w w':=by
 refine(run_ok (ks:=[[120]]) (txt:=fun _=>bT) w h (by decide) (by rw[mk_size];decide) (by decide) (by decide) (by decide) (fun W hW=>?_) (src_beg (fuel:=100) hr (by decide) (by decide) (by decide)) hT (by decide) (by decide) (fun ss hs=>hs) (by simp) (by decide) (by decide) (by decide) ?_).mono ?_
 ·have:=IsPath_any kA W (hm.below hW hm.lt)
  rw[path_a]at this
  exact this
 ·intro key hk
  obtain rfl:key=[120]:=by simpa using hk
  exact⟨by decide,txV bT,rfl,written_tx bT⟩
 ·rintro e w' ⟨tb,tc,gb,gc,rfl,h1,h2,hb⟩
  exact⟨tb,tc,gb,gc,rfl,h1 (0,.string bT) List.mem_cons_self,(h2 1 (by decide)).trans rfl,hb⟩
theorem div_len (na:Bool){a:Nat}(ha:a<1000000)(nb:Bool){b:Nat}(hb:b<1000000):(lnB (divL na a nb b)).length≤6000:=by
 have l1:=setI_len 97 na ha
 have l2:=setI_len 98 nb hb
 have l3:=lxX_len
 show(lxB (setI 97 na a)++10::(lxB (setI 98 nb b)++10::lxB lxX)).length≤6000
 simp only[List.length_append,List.length_cons]
 omega
def txD (A B:Int)(k:List UInt8):ByteArray:=if k=[120]then trS true else if k=[98]then mkB (Lib.itoa B)else mkB (Lib.itoa A)
theorem run_div {g cap:Nat}{w:World}(na:Bool){a:Nat}(ha:a<1000000)(nb:Bool){b:Nat}(hb:b<1000000)(h0:b≠0)(h:OneF g kMain (mkB (lnB (divL na a nb b))) w)(hr:ErrR w)(hT:TabE w)(hm:MaxIs w):
  Calls Tryz.prog 8 #[.slice (some ⟨g,0,none⟩) 1 cap,.string kMain,.int .i64 100000] w fun e w'=>∃ gb gc n,e= .returned (.tuple #[.slice none 0 0,.slice (some ⟨gb,0,none⟩) 3 gc,.int .i64 n,.int .i64 0])∧w'.cell? ⟨gb,0,none⟩=some (.string (mkB [97]))∧w'.cell? ⟨gb,2,none⟩=some (.string (mkB [98]))∧w'.cell? ⟨gb,4,none⟩=some (.string (mkB [120]))∧w'.cell? ⟨gb,5,none⟩=some (.string (trS true))∧Below w.heap.size w w':=by
 obtain⟨m,ht,hm2⟩:=div_tr na (by omega:a≤1000000) nb (by omega:b≤1000000) h0
 have hl:=div_len na ha nb hb
 have hi:∀ (g:Bool) (n:Nat),n<1000000→-9007199254740991≤intV g n∧intV g n≤9007199254740991:=fun g n hn=>by
  unfold intV
  cases g<;>simp<;>omega
 refine(run_ok (ks:=[[97],[98],[120]]) (txt:=txD (intV na a) (intV nb b)) w h (by decide) (by rw[mk_size];omega) (by decide) (by decide) (by decide) (fun W hW=>?_) (src_ok hr (by decide) (div_parR na ha nb hb) ht (show 0<3 by decide) (show 3≤1000 by decide) (by decide)) hT (by omega) (by omega) (fun ss hs=>?_) (by decide) (by decide) (by decide) ?_ ?_).mono ?_
 ·have:=IsPath_any kMain W (hm.below hW hm.lt)
  rw[path_main]at this
  exact this
 ·have e:strKeys (dE (divE (intV na a) (intV nb b)))=[[97],[98],[120]]:=rfl
  rw[←e]
  exact hs
 ·show 3≤1000
  decide
 ·intro key hk
  have hk3:key=[97]∨key=[98]∨key=[120]:=by simpa using hk
  rcases hk3 with rfl|rfl|rfl
  ·exact⟨by decide,nmV (intV na a),rfl,written_nm _ (hi na a ha).1 (hi na a ha).2⟩
  ·exact⟨by decide,nmV (intV nb b),rfl,written_nm _ (hi nb b hb).1 (hi nb b hb).2⟩
  ·exact⟨by decide,trV true,rfl,written_tr true⟩
 ·rintro e w' ⟨tb,tc,gb,gc,rfl,h1,h2,hbw⟩
  exact⟨gb,gc,_,rfl,(h2 0 (by decide)).trans rfl,(h2 2 (by decide)).trans rfl,(h2 4 (by decide)).trans rfl,(h2 5 (by decide)).trans rfl,hbw⟩
theorem run_div0 {g cap:Nat}{w:World}(na:Bool){a:Nat}(ha:a<1000000)(nb:Bool)(h:OneF g kMain (mkB (lnB (divL na a nb 0))) w)(hr:ErrR w)(hm:MaxIs w):
  Calls Tryz.prog 8 #[.slice (some ⟨g,0,none⟩) 1 cap,.string kMain,.int .i64 100000] w fun e w'=>e= .returned (.tuple #[.slice none 0 0,.slice none 0 0,.int .i64 0,.int .i64 3])∧Below w.heap.size w w':=by
 have hl:=div_len na ha nb (b:=0) (by decide)
 refine run_no (jj:=3) w h (by decide) (by rw[mk_size];omega) (by decide) (by decide) (by decide) (by decide) (fun W hW=>?_) (src_no (j:=3) hr (by decide) (div_parR na ha nb (by decide)) (div_no na (by omega) nb) (show 0<3 by decide) (show 3≤1000 by decide) (by decide))
 have:=IsPath_any kMain W (hm.below hW hm.lt)
 rw[path_main]at this
 exact this
end Go.Proofs.YthfgpkdbclogpaaGreatDoor
namespace Go.Proofs.YthfgpkdbclogpaaGreatDoor
open Go.RowKit Go.Shelf Go.Sort
def chs (c:Int)(m:Nat):Nat:=((if c<0 then -(c+1)else c)%(m:Int)).toNat
theorem chs_lt (c:Int){m:Nat}(h:0<m):chs c m<m:=by
 unfold chs
 have h2:=Int.emod_nonneg (if c<0 then -(c+1)else c) (show(m:Int)≠0 by omega)
 have h3:=Int.emod_lt_of_pos (if c<0 then -(c+1)else c) (show 0<(m:Int) by omega)
 omega
theorem choose_any (c:Int)(m:Nat)(w:World)(h0:-9223372036854775808≤c)(h1:c≤9223372036854775807)(hm:0<m):
  Calls Tryz.prog 5 #[.int .i64 c,.int .i64 m] w fun e w'=>e= .returned (.int .i64 (chs c m:Int))∧w'=w:=by
 have hmi:(0:Int)<(m:Int):=by omega
 have hm0:((m:Int)==0)=false:=by simp;omega
 have key:∀ d:Int,0≤d→d.tmod (m:Int)=((d%(m:Int)).toNat:Int)∧d%(m:Int)=((d%(m:Int)).toNat:Int):=fun d hd=>by
  have h2:=Int.emod_nonneg d (show(m:Int)≠0 by omega)
  refine⟨?_,by omega⟩
  rw[Int.tmod_eq_emod_of_nonneg hd]
  omega
 by_cases hc:c<0
 ·obtain⟨d,hd⟩:∃ d:Int,d=-(c+1):=⟨_,rfl⟩
  obtain⟨hr1,hr2⟩:=key d (by omega)
  have HC:Hid (chs c m=(d%(m:Int)).toNat):=by unfold Hid chs;rw[if_pos hc,hd]
  have x1:wrap64 (c+1)=c+1:=by unfold wrap64;omega
  have x2:IntKind.i64.wrap (c+1)=c+1:=by rw[IntKind.wrap_i64];omega
  have x3:wrap64 (-(c+1))=d:=by unfold wrap64;omega
  have x4:IntKind.i64.wrap (-(c+1))=d:=by rw[IntKind.wrap_i64];omega
  have hd0:0≤d:=by omega
  generalize(d%(m:Int)).toNat=r at *
  clear key hd h0 h1
  go_enter Tryz.func5,Tryz.ntmps5
  go_wp2
  go_ret
  exact⟨by rw[HC.out];simp,rfl⟩
 ·obtain⟨hr1,hr2⟩:=key c (by omega)
  have HC:Hid (chs c m=(c%(m:Int)).toNat):=by unfold Hid chs;rw[if_neg hc]
  have hc0:0≤c:=by omega
  generalize(c%(m:Int)).toNat=r at *
  clear key h1 hc
  go_enter Tryz.func5,Tryz.ntmps5
  go_wp2
  go_ret
  exact⟨by rw[HC.out];simp,rfl⟩
theorem catV (x y z:ByteArray)(h:x.data.toList++y.data.toList=z.data.toList)(hl:x.size+y.size≤9223372036854775807)(W:World):(Op.stringOp .add x y).run Tryz.prog W= .ok (.string z) W:=by
 have e:x++y=z:=by
  rw[mk_self z,←h,mk_self (x++y)]
  congr 1
 have hl2:(x.size:Int)+(y.size:Int)≤9223372036854775807:=by omega
 simp[Op.stringOp,e,hl2]
theorem digD1 (n:Nat)(hn:n<10)(w:World):
  Calls Tryz.prog 9 #[.int .i64 n] w fun e w'=>e= .returned (.string (mkB (Lib.decDigits n)))∧Below w.heap.size w w':=by
 have HD:Hid (mkB (Lib.decDigits n)=⟨#[UInt8.ofNat (48+n)]⟩):=by unfold Hid;rw[Lib.decDigits,dif_pos hn];rfl
 obtain⟨m,hm⟩:∃ m,m=48+n:=⟨_,rfl⟩
 rw[←hm]at HD
 have hu:((UInt8.ofNat m).toNat:Int)=(m:Int):=by
  have:(UInt8.ofNat m).toNat=m:=by rw[UInt8.toNat_ofNat'];omega
  omega
 have hcv:(convert 28 9 (.slice (some ⟨w.heap.size,0,none⟩) 1 1)).run Tryz.prog (w.alloc (.cells #[.int .u8 (m:Int)] 5))= .ok (.string ⟨#[UInt8.ofNat m]⟩) (w.alloc (.cells #[.int .u8 (m:Int)] 5)):=
  run_convert_bytes_back (w.alloc (.cells #[.int .u8 (m:Int)] 5)) 28 9 5 ⟨w.heap.size,0,none⟩ 1 [UInt8.ofNat m] Tryz.underlying28 Tryz.underlying5 Tryz.underlying9 fun j hj=>by
   have:j=0:=by simp at hj;omega
   subst this
   show(w.alloc (.cells #[.int .u8 (m:Int)] 5)).cell? ⟨w.heap.size,0,none⟩=some (.int .u8 ((UInt8.ofNat m).toNat:Int))
   rw[hu,Lib.cell_of_heap (heap_alloc_new w _)]
   rfl
 have k1:(n:Int)<10:=by omega
 have k2:(48:Int)+(n:Int)=(m:Int):=by omega
 have k3:IntKind.i64.wrap (m:Int)=(m:Int):=by rw[IntKind.wrap_i64];omega
 have k4:IntKind.u8.wrap (m:Int)=(m:Int):=by rw[IntKind.wrap_u8];omega
 have HB:Hid (Below w.heap.size w (w.alloc (.cells #[.int .u8 (m:Int)] 5))):=(Below.refl _ w).alloc (Nat.le_refl _) _
 clear hm hn hu
 go_enter Tryz.func9,Tryz.ntmps9
 go_wp2
 go_ret
 exact⟨by rw[HD.out];rfl,HB.out⟩
theorem digD_step (n a b:Nat)(ha:a=n/10)(hb:b=n%10)(hn:10≤n)(hn2:n≤1000000)(w:World)
  (hA:∀ W:World,Calls Tryz.prog 9 #[.int .i64 a] W fun e w'=>e= .returned (.string (mkB (Lib.decDigits a)))∧Below W.heap.size W w')
  (hB:∀ W:World,Calls Tryz.prog 9 #[.int .i64 b] W fun e w'=>e= .returned (.string (mkB (Lib.decDigits b)))∧Below W.heap.size W w'):
  Calls Tryz.prog 9 #[.int .i64 n] w fun e w'=>e= .returned (.string (mkB (Lib.decDigits n)))∧Below w.heap.size w w':=by
 have HA:Hid (∀ W:World,Calls Tryz.prog 9 #[.int .i64 a] W fun e w'=>e= .returned (.string (mkB (Lib.decDigits a)))∧Below W.heap.size W w'):=hA
 have HB:Hid (∀ W:World,Calls Tryz.prog 9 #[.int .i64 b] W fun e w'=>e= .returned (.string (mkB (Lib.decDigits b)))∧Below W.heap.size W w'):=hB
 have hcat:Lib.decDigits a++Lib.decDigits b=Lib.decDigits n:=by
  rw[Lib.decDigits.eq_def n,dif_neg (by omega),Lib.decDigits.eq_def b,dif_pos (by omega),ha,hb]
 have hc:=catV (mkB (Lib.decDigits a)) (mkB (Lib.decDigits b)) (mkB (Lib.decDigits n)) (by rw[mk_data,mk_data,mk_data];exact hcat) (by have:=dec_len 6 a (by omega);have:=dec_len 6 b (by omega);rw[mk_size,mk_size];omega)
 have k1:¬(n:Int)<10:=by omega
 have k2:(n:Int)/10=(a:Int):=by omega
 have k3:(n:Int)%10=(b:Int):=by omega
 have k4:(n:Int).tdiv 10=(a:Int):=by rw[Int.tdiv_eq_ediv_of_nonneg (by omega)];exact k2
 have k5:(n:Int).tmod 10=(b:Int):=by rw[Int.tmod_eq_emod_of_nonneg (by omega)];exact k3
 have k6:IntKind.i64.wrap (a:Int)=(a:Int):=by rw[IntKind.wrap_i64];omega
 have k7:IntKind.i64.wrap (b:Int)=(b:Int):=by rw[IntKind.wrap_i64];omega
 clear hA hB hcat ha hb hn hn2
 generalize mkB (Lib.decDigits a)=da at *
 generalize mkB (Lib.decDigits b)=db at *
 generalize mkB (Lib.decDigits n)=dn at *
 go_enter Tryz.func9,Tryz.ntmps9
 go_wp2_with fail
 refine(HA.out _).mono ?_
 rintro e w1 ⟨rfl,hb1⟩
 go_wp2_with fail
 refine(HB.out _).mono ?_
 rintro e w2 ⟨rfl,hb2⟩
 have HW:Hid (Below w.heap.size w w2):=hb1.trans (hb2.mono hb1.size)
 clear hb1 hb2
 go_wp2
 go_ret
 exact⟨rfl,HW.out⟩
theorem DigitsOf_any (n:Nat)(hn:n≤1000000):∀ w:World,
  Calls Tryz.prog 9 #[.int .i64 n] w fun e w'=>e= .returned (.string (mkB (Lib.decDigits n)))∧Below w.heap.size w w':=by
 induction n using Nat.strongRecOn with
 |_ n ih=>
  intro w
  by_cases h:n<10
  ·exact digD1 n h w
  ·exact digD_step n _ _ rfl rfl (by omega) hn w (fun W=>ih _ (by omega) (by omega) W) (fun W=>digD1 _ (by omega) W)
def intB (neg:Bool)(n:Nat):ByteArray:=mkB ((bif neg then[45]else[])++Lib.decDigits n)
theorem IntText_neg (n:Nat)(h0:0<n)(hn:n≤1000000)(w:World):
  Calls Tryz.prog 6 #[.int .i64 (-(n:Int))] w fun e w'=>e= .returned (.string (intB true n))∧Below w.heap.size w w':=by
 have HD:Hid (∀ W:World,Calls Tryz.prog 9 #[.int .i64 n] W fun e w'=>e= .returned (.string (mkB (Lib.decDigits n)))∧Below W.heap.size W w'):=DigitsOf_any n hn
 have hc:=catV ⟨#[45]⟩ (mkB (Lib.decDigits n)) (intB true n) (by unfold intB;rw[mk_data,mk_data];rfl) (by have:=dec_len 6 n (by omega);rw[mk_size,show(⟨#[45]⟩:ByteArray).size=1 from rfl];omega)
 have k1:-(n:Int)<0:=by omega
 have k2:-(-(n:Int))=(n:Int):=by omega
 have k3:IntKind.i64.wrap (n:Int)=(n:Int):=by rw[IntKind.wrap_i64];omega
 clear h0 hn
 generalize mkB (Lib.decDigits n)=d at *
 go_enter Tryz.func6,Tryz.ntmps6
 go_wp2_with fail
 refine(HD.out _).mono ?_
 rintro e w1 ⟨rfl,hb1⟩
 have HW:Hid (Below w.heap.size w w1):=hb1
 clear hb1
 go_wp2
 go_ret
 exact⟨rfl,HW.out⟩
theorem IntText_pos (n:Nat)(hn:n≤1000000)(w:World):
  Calls Tryz.prog 6 #[.int .i64 (n:Int)] w fun e w'=>e= .returned (.string (intB false n))∧Below w.heap.size w w':=by
 have HD:Hid (∀ W:World,Calls Tryz.prog 9 #[.int .i64 n] W fun e w'=>e= .returned (.string (mkB (Lib.decDigits n)))∧Below W.heap.size W w'):=DigitsOf_any n hn
 have he:mkB (Lib.decDigits n)=intB false n:=rfl
 rw[he]at HD
 have k1:¬(n:Int)<0:=by omega
 clear hn he
 generalize intB false n=d at *
 go_enter Tryz.func6,Tryz.ntmps6
 go_wp2_with fail
 refine(HD.out _).mono ?_
 rintro e w1 ⟨rfl,hb1⟩
 have HW:Hid (Below w.heap.size w w1):=hb1
 clear hb1
 go_wp2
 go_ret
 exact⟨rfl,HW.out⟩
theorem IntText_any (x:Int)(h1:-1000000≤x)(h2:x≤1000000):∃ (neg:Bool) (n:Nat),n≤x.natAbs∧x=intV neg n∧(n=0↔x=0)∧∀ w,Calls Tryz.prog 6 #[.int .i64 x] w fun e w'=>e= .returned (.string (intB neg n))∧Below w.heap.size w w':=by
 by_cases h:x<0
 ·refine⟨true,x.natAbs,Nat.le_refl _,by simp[intV];omega,by omega,fun w=>?_⟩
  have:=IntText_neg x.natAbs (by omega) (by omega) w
  rwa [show -(x.natAbs:Int)=x by omega]at this
 ·refine⟨false,x.natAbs,Nat.le_refl _,by simp[intV];omega,by omega,fun w=>?_⟩
  have:=IntText_pos x.natAbs (by omega) w
  rwa [show(x.natAbs:Int)=x by omega]at this
end Go.Proofs.YthfgpkdbclogpaaGreatDoor
